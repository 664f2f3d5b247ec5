/- MultiplyPartitions: the program's and the model's, and the law. -/
import Derived.Test.YtjecafjdlfdpcaaPrS
import Derived.Test.YtjecafjdlfdpcaaPrJ
import Derived.Test.YtjecafjdlfdpcaaLawPw2
namespace Go.Proofs.Ytjecafjdlfdpcaa
open Go.RowKit
set_option linter.unusedVariables false
set_option linter.unusedVariables false
theorem results_row_tmp2 {P : Program} {fn : Func} {p u u2 : Tmp} {ty : TypeId} (h : fn.results = #[.cell p ty, .tmp u, .tmp u2]) (tmps : Array Value) (w : World) (g : Nat) (t : TypeId) (cs : Array Value) (fr : Nat × Nat) (d : TypeDesc)
    (hp : tmps.getD p undef = .pointer (some ⟨g, 0, none⟩)) (hg : w.heap[g]? = some (.cells cs t fr))
    (hu : P.underlying ty = some d) (hd : (match d with | .struct _ | .array _ _ => true | _ => false) = true) (hi : (P.info? ty).map (·.size) = some cs.size) (v : Value) (hv : tmps.getD u undef = v) (v2 : Value) (hv2 : tmps.getD u2 undef = v2) :
    (results fn tmps).run P w = .ok (.tuple #[.agg cs, v, v2]) w := by
  have e : (results fn tmps).run P w =
      ((asAddr (tmps.getD p undef)).run P w).andThen fun a w₁ => ((loadVar ty a).run P w₁).andThen fun v w₂ => .ok (.tuple #[v, tmps.getD u undef, tmps.getD u2 undef]) w₂ := by
    simp only [results, h]
    simp [Sem.run_bind, Result.andThen]
  rw [e, hp, hv, hv2]
  simp [asAddr, run_loadVar_row w g t ty cs fr d hg hu hd hi, Result.andThen]
theorem prP_len (N : Nat) (A B : List Int) (h4 : N ≤ 4) : (prP N A B).length = 8 := told_len _ (by rw [List.length_take, lab_len, nods_len]; omega)
theorem prodPI_any (n : Int) (ms es : List Int) (hms : ms.length = 8) (hes : es.length = 8) (hd : isP n ms = true) (hd2 : isP n es = true) (w : World) :
    Calls Try.prog 58 #[.agg (dcells n ms), .agg (dcells n es)] w fun e w' => e = .returned (.tuple #[.agg (dcells n (prP n.toNat ms es)), .int .i64 (prC n.toNat ms es : Nat)]) ∧ Below w.heap.size w w' := by
  have hn := isP_n hd
  have h := prodPI_nat n.toNat ms es hms hes (isP_nums hms hd) (isP_nums hes hd2) w (by omega) (by omega)
  rwa [show ((n.toNat : Nat) : Int) = n by omega] at h
theorem timesPS_any (n : Int) (ms es : List Int) (hms : ms.length = 8) (hes : es.length = 8) (hd : isP n ms = true) (hd2 : isP n es = true) (w : World) :
    Calls Try.prog 57 #[.agg (dcells n ms), .agg (dcells n es)] w fun e w' => e = .returned (.tuple #[.agg (dcells n (prP n.toNat ms es)), .int .i64 (prC n.toNat ms es : Nat)]) ∧ Below w.heap.size w w' := by
  have hn := isP_n hd
  have h := timesPS_nat n.toNat ms es hms hes (isP_nums hms hd) (isP_nums hes hd2) w (by omega) (by omega)
  rwa [show ((n.toNat : Nat) : Int) = n by omega] at h
set_option maxRecDepth 100000 in
set_option maxHeartbeats 1000000 in
theorem pmI_bad1 (n m : Int) (ms es : List Int) (hms : ms.length = 8) (hes : es.length = 8) (hb : Bytes ms) (hb2 : Bytes es) (hd : isP n ms = false) (w : World) :
    Calls Try.prog 33 #[.agg (dcells n ms), .agg (dcells m es)] w fun e w' => e = .returned (.tuple #[.agg zp, .int .i64 0, .int .i64 1]) ∧ Below w.heap.size w w' := by
  have hl := Lib.hid hms
  have hl2 := Lib.hid hes
  have hc := Lib.hid (fun w => isPIb_any n ms hms hb w)
  rw [hd] at hc
  clear hms hes hb hb2 hd
  go_enter Try.func33, Try.ntmps33
  go_wp2_with (first
    | (refine wpList_load_row rfl 26 _ rfl _ rfl 26 _ (0, 0) _ (((Own.new _ _ _).alloc _).alloc _) Try.underlying26 rfl (rowP (d9 _ _ (hl.out))) ?_)
    | (go_at_call 15; ((with_reducible refine (hc.out _).mono ?_); rintro e w1 ⟨rfl, hB1⟩; have hA1 : Own w1 w.heap.size (dcells n ms) 26 := (((Own.new _ _ _).alloc _).alloc _).below hB1 (by simp <;> omega); have hA2 : Own w1 (w.heap.size + 1) (dcells m es) 26 := ((Own.at _ _ _ (by simp)).alloc _).below hB1 (by simp <;> omega); have hR1 : Own w1 (w.heap.size + 1 + 1) zp 26 := (Own.at _ _ _ (by simp)).below hB1 (by simp); have hBw : Below w.heap.size w w1 := ((((Below.refl w.heap.size w).alloc (Nat.le_refl _) _).alloc (by simp) _).alloc (by simp <;> omega) _).trans (hB1.mono (by simp <;> omega)); clear hB1))
    | (refine wpList_build_of rfl 26 #[] rfl zp ?_ ?_; (exact builtP0))
    | (refine wpList_store_own rfl 26 _ _ rfl _ _ rfl rfl 26 _ (hR1) (rowP (d9 _ _ (zlen8))) (rfl) (dcells_one _ _) ?_; intro w4 hO4 hN4))
  refine bodyPost_ret (v := .tuple #[.agg (zp), .int .i64 0, .int .i64 1]) (results_row_tmp2 (v := .int .i64 0) (v2 := .int .i64 1) rfl _ _ _ _ _ (0, 0) _ rfl (hO4) Try.underlying26 rfl (rowP (d9 _ _ (zlen8))) rfl rfl) rfl (⟨rfl, hBw.trans (hN4.below.mono (by omega))⟩)
set_option maxRecDepth 100000 in
set_option maxHeartbeats 1000000 in
theorem pmI_bad2 (n m : Int) (ms es : List Int) (hms : ms.length = 8) (hes : es.length = 8) (hb : Bytes ms) (hb2 : Bytes es) (hd : isP n ms = true) (hd2 : isP m es = false) (w : World) :
    Calls Try.prog 33 #[.agg (dcells n ms), .agg (dcells m es)] w fun e w' => e = .returned (.tuple #[.agg zp, .int .i64 0, .int .i64 1]) ∧ Below w.heap.size w w' := by
  have hl := Lib.hid hms
  have hl2 := Lib.hid hes
  have hc := Lib.hid (fun w => isPIb_any n ms hms hb w)
  have hc2 := Lib.hid (fun w => isPIb_any m es hes hb2 w)
  rw [hd] at hc
  rw [hd2] at hc2
  clear hms hes hb hb2 hd hd2
  go_enter Try.func33, Try.ntmps33
  go_wp2_with (first
    | (refine wpList_load_row rfl 26 _ rfl _ rfl 26 _ (0, 0) _ (((Own.new _ _ _).alloc _).alloc _) Try.underlying26 rfl (rowP (d9 _ _ (hl.out))) ?_)
    | (refine wpList_load_row_if rfl 26 _ rfl _ rfl 26 _ _ (hA2) Try.underlying26 rfl (rowP (d9 _ _ (hl2.out))) ?_)
    | (go_at_call 15; ((with_reducible refine (hc2.out w1).mono ?_); rintro e w2 ⟨rfl, hB2⟩; have hA3 := hA1.below hB2 hA1.lt; have hA4 := hA2.below hB2 hA2.lt; have hR2 := hR1.below hB2 hR1.lt; have hBx : Below w.heap.size w w2 := hBw.trans (hB2.mono hBw.size); have hC3 := hA3.cell 0; rw [dcells_zero] at hC3; have hC4 := hA4.cell 0; rw [dcells_zero] at hC4; clear hA1 hA2 hR1 hBw hB2))
    | (go_at_call 15; ((with_reducible refine (hc.out _).mono ?_); rintro e w1 ⟨rfl, hB1⟩; have hA1 : Own w1 w.heap.size (dcells n ms) 26 := (((Own.new _ _ _).alloc _).alloc _).below hB1 (by simp <;> omega); have hA2 : Own w1 (w.heap.size + 1) (dcells m es) 26 := ((Own.at _ _ _ (by simp)).alloc _).below hB1 (by simp <;> omega); have hR1 : Own w1 (w.heap.size + 1 + 1) zp 26 := (Own.at _ _ _ (by simp)).below hB1 (by simp); have hBw : Below w.heap.size w w1 := ((((Below.refl w.heap.size w).alloc (Nat.le_refl _) _).alloc (by simp) _).alloc (by simp <;> omega) _).trans (hB1.mono (by simp <;> omega)); clear hB1))
    | (refine wpList_build_of rfl 26 #[] rfl zp ?_ ?_; (exact builtP0))
    | (refine wpList_store_own rfl 26 _ _ rfl _ _ rfl rfl 26 _ (hR2) (rowP (d9 _ _ (zlen8))) (rfl) (dcells_one _ _) ?_; intro w4 hO4 hN4))
  refine bodyPost_ret (v := .tuple #[.agg (zp), .int .i64 0, .int .i64 1]) (results_row_tmp2 (v := .int .i64 0) (v2 := .int .i64 1) rfl _ _ _ _ _ (0, 0) _ rfl (hO4) Try.underlying26 rfl (rowP (d9 _ _ (zlen8))) rfl rfl) rfl (⟨rfl, hBx.trans (hN4.below.mono (by omega))⟩)
set_option maxRecDepth 100000 in
set_option maxHeartbeats 1000000 in
theorem pmI_sizes (n m : Int) (ms es : List Int) (hms : ms.length = 8) (hes : es.length = 8) (hb : Bytes ms) (hb2 : Bytes es) (hd : isP n ms = true) (hd2 : isP m es = true) (hne : n ≠ m) (w : World) :
    Calls Try.prog 33 #[.agg (dcells n ms), .agg (dcells m es)] w fun e w' => e = .returned (.tuple #[.agg zp, .int .i64 0, .int .i64 2]) ∧ Below w.heap.size w w' := by
  have hl := Lib.hid hms
  have hl2 := Lib.hid hes
  have hc := Lib.hid (fun w => isPIb_any n ms hms hb w)
  have hc2 := Lib.hid (fun w => isPIb_any m es hes hb2 w)
  rw [hd] at hc
  rw [hd2] at hc2
  clear hms hes hb hb2 hd hd2
  go_enter Try.func33, Try.ntmps33
  go_wp2_with (first
    | (refine wpList_load_row rfl 26 _ rfl _ rfl 26 _ (0, 0) _ (((Own.new _ _ _).alloc _).alloc _) Try.underlying26 rfl (rowP (d9 _ _ (hl.out))) ?_)
    | (refine wpList_load_row_if rfl 26 _ rfl _ rfl 26 _ _ (hA2) Try.underlying26 rfl (rowP (d9 _ _ (hl2.out))) ?_)
    | (go_at_call 15; ((with_reducible refine (hc2.out w1).mono ?_); rintro e w2 ⟨rfl, hB2⟩; have hA3 := hA1.below hB2 hA1.lt; have hA4 := hA2.below hB2 hA2.lt; have hR2 := hR1.below hB2 hR1.lt; have hBx : Below w.heap.size w w2 := hBw.trans (hB2.mono hBw.size); have hC3 := hA3.cell 0; rw [dcells_zero] at hC3; have hC4 := hA4.cell 0; rw [dcells_zero] at hC4; clear hA1 hA2 hR1 hBw hB2))
    | (go_at_call 15; ((with_reducible refine (hc.out _).mono ?_); rintro e w1 ⟨rfl, hB1⟩; have hA1 : Own w1 w.heap.size (dcells n ms) 26 := (((Own.new _ _ _).alloc _).alloc _).below hB1 (by simp <;> omega); have hA2 : Own w1 (w.heap.size + 1) (dcells m es) 26 := ((Own.at _ _ _ (by simp)).alloc _).below hB1 (by simp <;> omega); have hR1 : Own w1 (w.heap.size + 1 + 1) zp 26 := (Own.at _ _ _ (by simp)).below hB1 (by simp); have hBw : Below w.heap.size w w1 := ((((Below.refl w.heap.size w).alloc (Nat.le_refl _) _).alloc (by simp) _).alloc (by simp <;> omega) _).trans (hB1.mono (by simp <;> omega)); clear hB1))
    | (refine wpList_build_of rfl 26 #[] rfl zp ?_ ?_; (exact builtP0))
    | (refine wpList_store_own rfl 26 _ _ rfl _ _ rfl rfl 26 _ (hR2) (rowP (d9 _ _ (zlen8))) (rfl) (dcells_one _ _) ?_; intro w4 hO4 hN4))
  refine bodyPost_ret (v := .tuple #[.agg (zp), .int .i64 0, .int .i64 2]) (results_row_tmp2 (v := .int .i64 0) (v2 := .int .i64 2) rfl _ _ _ _ _ (0, 0) _ rfl (hO4) Try.underlying26 rfl (rowP (d9 _ _ (zlen8))) rfl rfl) rfl (⟨rfl, hBx.trans (hN4.below.mono (by omega))⟩)
set_option maxRecDepth 100000 in
set_option maxHeartbeats 1000000 in
theorem pmI_ok (n m : Int) (ms es : List Int) (hms : ms.length = 8) (hes : es.length = 8) (hb : Bytes ms) (hb2 : Bytes es) (hd : isP n ms = true) (hd2 : isP m es = true) (hne : n = m) (w : World) :
    Calls Try.prog 33 #[.agg (dcells n ms), .agg (dcells m es)] w fun e w' => e = .returned (.tuple #[.agg (dcells n (prP n.toNat ms es)), .int .i64 ((prC n.toNat ms es : Nat)), .int .i64 0]) ∧ Below w.heap.size w w' := by
  have hl := Lib.hid hms
  have hl2 := Lib.hid hes
  have hc := Lib.hid (fun w => isPIb_any n ms hms hb w)
  have hc2 := Lib.hid (fun w => isPIb_any m es hes hb2 w)
  rw [hd] at hc
  rw [hd2] at hc2
  subst hne
  have hp := Lib.hid (fun w => prodPI_any n ms es hms hes hd hd2 w)
  have hlp := Lib.hid (prP_len n.toNat ms es (by have := isP_n hd; omega))
  generalize prP n.toNat ms es = pr at hp hlp ⊢
  generalize ((prC n.toNat ms es : Nat) : Int) = lc at hp ⊢
  clear hms hes hb hb2 hd hd2
  go_enter Try.func33, Try.ntmps33
  go_wp2_with (first
    | (refine wpList_load_row rfl 26 _ rfl _ rfl 26 _ (0, 0) _ (((Own.new _ _ _).alloc _).alloc _) Try.underlying26 rfl (rowP (d9 _ _ (hl.out))) ?_)
    | (refine wpList_load_row_if rfl 26 _ rfl _ rfl 26 _ _ (hA2) Try.underlying26 rfl (rowP (d9 _ _ (hl2.out))) ?_)
    | (go_at_call 15; ((with_reducible refine (hc2.out w1).mono ?_); rintro e w2 ⟨rfl, hB2⟩; have hA3 := hA1.below hB2 hA1.lt; have hA4 := hA2.below hB2 hA2.lt; have hR2 := hR1.below hB2 hR1.lt; have hBx : Below w.heap.size w w2 := hBw.trans (hB2.mono hBw.size); have hC3 := hA3.cell 0; rw [dcells_zero] at hC3; have hC4 := hA4.cell 0; rw [dcells_zero] at hC4; clear hA1 hA2 hR1 hBw hB2))
    | (go_at_call 15; ((with_reducible refine (hc.out _).mono ?_); rintro e w1 ⟨rfl, hB1⟩; have hA1 : Own w1 w.heap.size (dcells n ms) 26 := (((Own.new _ _ _).alloc _).alloc _).below hB1 (by simp <;> omega); have hA2 : Own w1 (w.heap.size + 1) (dcells n es) 26 := ((Own.at _ _ _ (by simp)).alloc _).below hB1 (by simp <;> omega); have hR1 : Own w1 (w.heap.size + 1 + 1) zp 26 := (Own.at _ _ _ (by simp)).below hB1 (by simp); have hBw : Below w.heap.size w w1 := ((((Below.refl w.heap.size w).alloc (Nat.le_refl _) _).alloc (by simp) _).alloc (by simp <;> omega) _).trans (hB1.mono (by simp <;> omega)); clear hB1))
    | (refine wpList_load_row rfl 26 _ rfl _ rfl 26 _ (0, 0) _ (hA3) Try.underlying26 rfl (rowP (d9 _ _ (hl.out))) ?_)
    | (refine wpList_load_row rfl 26 _ rfl _ rfl 26 _ (0, 0) _ (hA4) Try.underlying26 rfl (rowP (d9 _ _ (hl2.out))) ?_)
    | (go_at_call 58; ((with_reducible refine (hp.out _).mono ?_); rintro e w5 ⟨rfl, hB5⟩))
    | (refine wpList_store_own rfl 26 _ _ rfl _ _ rfl rfl 26 _ (Own.new w5 _ _) (rowP (d9 _ _ (hlp.out))) (z_eq8 (d9 _ _ hlp.out)) (dcells_one _ _) ?_; intro w6 hO6 hN6)
    | (refine wpList_load_row rfl 26 _ rfl _ rfl 26 _ (0, 0) _ (hO6) Try.underlying26 rfl (rowP (d9 _ _ (hlp.out))) ?_)
    | (refine wpList_store_own rfl 26 _ _ rfl _ _ rfl rfl 26 _ (((hR2.below hB5 hR2.lt).alloc _).only hN6 (Nat.ne_of_lt (Nat.lt_of_lt_of_le hR2.lt hB5.size))) (rowP (d9 _ _ (hlp.out))) (z_eq8 (d9 _ _ hlp.out)) (dcells_one _ _) ?_; intro w7 hO7 hN7))
  refine bodyPost_ret (v := .tuple #[.agg (dcells n pr), .int .i64 lc, .int .i64 0]) (results_row_tmp2 (v := .int .i64 lc) (v2 := .int .i64 0) rfl _ _ _ _ _ (0, 0) _ rfl (hO7) Try.underlying26 rfl (rowP (d9 _ _ (hlp.out))) rfl rfl) rfl (⟨rfl, ?_⟩)
  have b5 := hBx.trans (hB5.mono hBx.size)
  have b6 := (b5.alloc b5.size _).trans (hN6.below.mono b5.size)
  exact b6.trans (hN7.below.mono (by omega))
set_option maxRecDepth 100000 in
theorem ppair_bad1 (n m : Int) (ms es : List Int) (hms : ms.length = 8) (hes : es.length = 8) (hb : Bytes ms) (hb2 : Bytes es) (hd : isP n ms = false) (w : World) :
    Calls Try.prog 56 #[.agg (dcells n ms), .agg (dcells m es)] w fun e w' => e = .returned (.int .i64 1) ∧ Below w.heap.size w w' := by
  have hl := Lib.hid hms
  have hl2 := Lib.hid hes
  have hc := Lib.hid (fun w => isPS_any n ms hms hb w)
  rw [hd] at hc
  clear hms hes hb hb2 hd
  go_enter Try.func56, Try.ntmps56
  go_wp2_with (first
    | (refine wpList_load_row rfl 26 _ rfl _ rfl 26 _ (0, 0) _ ((Own.new _ _ _).alloc _) Try.underlying26 rfl (rowP (d9 _ _ (hl.out))) ?_)
    | (go_at_call 39; ((with_reducible refine (hc.out _).mono ?_); rintro e w1 ⟨rfl, hB1⟩; have hA1 : Own w1 w.heap.size (dcells n ms) 26 := ((Own.new _ _ _).alloc _).below hB1 (by simp <;> omega); have hA2 : Own w1 (w.heap.size + 1) (dcells m es) 26 := (Own.at _ _ _ (by simp)).below hB1 (by simp <;> omega); have hBw : Below w.heap.size w w1 := (((Below.refl w.heap.size w).alloc (Nat.le_refl _) _).alloc (by simp) _).trans (hB1.mono (by simp <;> omega)); clear hB1))
    | fail)
  go_ret
  exact ⟨rfl, hBw⟩
set_option maxRecDepth 100000 in
theorem ppair_bad2 (n m : Int) (ms es : List Int) (hms : ms.length = 8) (hes : es.length = 8) (hb : Bytes ms) (hb2 : Bytes es) (hd : isP n ms = true) (hd2 : isP m es = false) (w : World) :
    Calls Try.prog 56 #[.agg (dcells n ms), .agg (dcells m es)] w fun e w' => e = .returned (.int .i64 1) ∧ Below w.heap.size w w' := by
  have hl := Lib.hid hms
  have hl2 := Lib.hid hes
  have hc := Lib.hid (fun w => isPS_any n ms hms hb w)
  have hc2 := Lib.hid (fun w => isPS_any m es hes hb2 w)
  rw [hd] at hc
  rw [hd2] at hc2
  clear hms hes hb hb2 hd hd2
  go_enter Try.func56, Try.ntmps56
  go_wp2_with (first
    | (refine wpList_load_row rfl 26 _ rfl _ rfl 26 _ (0, 0) _ ((Own.new _ _ _).alloc _) Try.underlying26 rfl (rowP (d9 _ _ (hl.out))) ?_)
    | (refine wpList_load_row_if rfl 26 _ rfl _ rfl 26 _ _ (hA2) Try.underlying26 rfl (rowP (d9 _ _ (hl2.out))) ?_)
    | (go_at_call 39; ((with_reducible refine (hc2.out w1).mono ?_); rintro e w2 ⟨rfl, hB2⟩; have hA3 := hA1.below hB2 hA1.lt; have hA4 := hA2.below hB2 hA2.lt; have hBx : Below w.heap.size w w2 := hBw.trans (hB2.mono hBw.size); have hC3 := hA3.cell 0; rw [dcells_zero] at hC3; have hC4 := hA4.cell 0; rw [dcells_zero] at hC4; clear hA1 hA2 hBw hB2))
    | (go_at_call 39; ((with_reducible refine (hc.out _).mono ?_); rintro e w1 ⟨rfl, hB1⟩; have hA1 : Own w1 w.heap.size (dcells n ms) 26 := ((Own.new _ _ _).alloc _).below hB1 (by simp <;> omega); have hA2 : Own w1 (w.heap.size + 1) (dcells m es) 26 := (Own.at _ _ _ (by simp)).below hB1 (by simp <;> omega); have hBw : Below w.heap.size w w1 := (((Below.refl w.heap.size w).alloc (Nat.le_refl _) _).alloc (by simp) _).trans (hB1.mono (by simp <;> omega)); clear hB1)))
  go_ret
  exact ⟨rfl, hBx⟩
set_option maxRecDepth 100000 in
theorem ppair_sizes (n m : Int) (ms es : List Int) (hms : ms.length = 8) (hes : es.length = 8) (hb : Bytes ms) (hb2 : Bytes es) (hd : isP n ms = true) (hd2 : isP m es = true) (hne : n ≠ m) (w : World) :
    Calls Try.prog 56 #[.agg (dcells n ms), .agg (dcells m es)] w fun e w' => e = .returned (.int .i64 2) ∧ Below w.heap.size w w' := by
  have hl := Lib.hid hms
  have hl2 := Lib.hid hes
  have hc := Lib.hid (fun w => isPS_any n ms hms hb w)
  have hc2 := Lib.hid (fun w => isPS_any m es hes hb2 w)
  rw [hd] at hc
  rw [hd2] at hc2
  clear hms hes hb hb2 hd hd2
  go_enter Try.func56, Try.ntmps56
  go_wp2_with (first
    | (refine wpList_load_row rfl 26 _ rfl _ rfl 26 _ (0, 0) _ ((Own.new _ _ _).alloc _) Try.underlying26 rfl (rowP (d9 _ _ (hl.out))) ?_)
    | (refine wpList_load_row_if rfl 26 _ rfl _ rfl 26 _ _ (hA2) Try.underlying26 rfl (rowP (d9 _ _ (hl2.out))) ?_)
    | (go_at_call 39; ((with_reducible refine (hc2.out w1).mono ?_); rintro e w2 ⟨rfl, hB2⟩; have hA3 := hA1.below hB2 hA1.lt; have hA4 := hA2.below hB2 hA2.lt; have hBx : Below w.heap.size w w2 := hBw.trans (hB2.mono hBw.size); have hC3 := hA3.cell 0; rw [dcells_zero] at hC3; have hC4 := hA4.cell 0; rw [dcells_zero] at hC4; clear hA1 hA2 hBw hB2))
    | (go_at_call 39; ((with_reducible refine (hc.out _).mono ?_); rintro e w1 ⟨rfl, hB1⟩; have hA1 : Own w1 w.heap.size (dcells n ms) 26 := ((Own.new _ _ _).alloc _).below hB1 (by simp <;> omega); have hA2 : Own w1 (w.heap.size + 1) (dcells m es) 26 := (Own.at _ _ _ (by simp)).below hB1 (by simp <;> omega); have hBw : Below w.heap.size w w1 := (((Below.refl w.heap.size w).alloc (Nat.le_refl _) _).alloc (by simp) _).trans (hB1.mono (by simp <;> omega)); clear hB1)))
  go_ret
  exact ⟨rfl, hBx⟩
set_option maxRecDepth 100000 in
theorem ppair_ok (n m : Int) (ms es : List Int) (hms : ms.length = 8) (hes : es.length = 8) (hb : Bytes ms) (hb2 : Bytes es) (hd : isP n ms = true) (hd2 : isP m es = true) (hne : n = m) (w : World) :
    Calls Try.prog 56 #[.agg (dcells n ms), .agg (dcells m es)] w fun e w' => e = .returned (.int .i64 0) ∧ Below w.heap.size w w' := by
  have hl := Lib.hid hms
  have hl2 := Lib.hid hes
  have hc := Lib.hid (fun w => isPS_any n ms hms hb w)
  subst hne
  have hc2 := Lib.hid (fun w => isPS_any n es hes hb2 w)
  rw [hd] at hc
  rw [hd2] at hc2
  clear hms hes hb hb2 hd hd2
  go_enter Try.func56, Try.ntmps56
  go_wp2_with (first
    | (refine wpList_load_row rfl 26 _ rfl _ rfl 26 _ (0, 0) _ ((Own.new _ _ _).alloc _) Try.underlying26 rfl (rowP (d9 _ _ (hl.out))) ?_)
    | (refine wpList_load_row_if rfl 26 _ rfl _ rfl 26 _ _ (hA2) Try.underlying26 rfl (rowP (d9 _ _ (hl2.out))) ?_)
    | (go_at_call 39; ((with_reducible refine (hc2.out w1).mono ?_); rintro e w2 ⟨rfl, hB2⟩; have hA3 := hA1.below hB2 hA1.lt; have hA4 := hA2.below hB2 hA2.lt; have hBx : Below w.heap.size w w2 := hBw.trans (hB2.mono hBw.size); have hC3 := hA3.cell 0; rw [dcells_zero] at hC3; have hC4 := hA4.cell 0; rw [dcells_zero] at hC4; clear hA1 hA2 hBw hB2))
    | (go_at_call 39; ((with_reducible refine (hc.out _).mono ?_); rintro e w1 ⟨rfl, hB1⟩; have hA1 : Own w1 w.heap.size (dcells n ms) 26 := ((Own.new _ _ _).alloc _).below hB1 (by simp <;> omega); have hA2 : Own w1 (w.heap.size + 1) (dcells n es) 26 := (Own.at _ _ _ (by simp)).below hB1 (by simp <;> omega); have hBw : Below w.heap.size w w1 := (((Below.refl w.heap.size w).alloc (Nat.le_refl _) _).alloc (by simp) _).trans (hB1.mono (by simp <;> omega)); clear hB1)))
  go_ret
  exact ⟨rfl, hBx⟩
set_option maxRecDepth 100000 in
set_option maxHeartbeats 1000000 in
theorem pmS_err (n m c : Int) (ms es : List Int) (hms : ms.length = 8) (hes : es.length = 8) (h0 : c ≠ 0) (h0' : 0 ≤ c ∧ c ≤ 6) (hp : ∀ w, Calls Try.prog 56 #[.agg (dcells n ms), .agg (dcells m es)] w fun e w' => e = .returned (.int .i64 c) ∧ Below w.heap.size w w') (w : World) :
    Calls Try.prog 32 #[.agg (dcells n ms), .agg (dcells m es)] w fun e w' => e = .returned (.tuple #[.agg zp, .int .i64 0, .int .i64 c]) ∧ Below w.heap.size w w' := by
  have hl := Lib.hid hms
  have hl2 := Lib.hid hes
  have hc := Lib.hid hp
  clear hms hes hp
  go_enter Try.func32, Try.ntmps32
  go_wp2_with (first
    | (refine wpList_load_row rfl 26 _ rfl _ rfl 26 _ (0, 0) _ (((Own.new _ _ _).alloc _).alloc _) Try.underlying26 rfl (rowP (d9 _ _ (hl.out))) ?_)
    | (refine wpList_load_row rfl 26 _ rfl _ rfl 26 _ (0, 0) _ ((Own.at _ _ _ (by simp)).alloc _) Try.underlying26 rfl (rowP (d9 _ _ (hl2.out))) ?_)
    | (go_at_call 56; ((with_reducible refine (hc.out _).mono ?_); rintro e w1 ⟨rfl, hB1⟩; have hA1 : Own w1 w.heap.size (dcells n ms) 26 := (((Own.new _ _ _).alloc _).alloc _).below hB1 (by simp <;> omega); have hA2 : Own w1 (w.heap.size + 1) (dcells m es) 26 := ((Own.at _ _ _ (by simp)).alloc _).below hB1 (by simp <;> omega); have hR1 : Own w1 (w.heap.size + 1 + 1) zp 26 := (Own.at _ _ _ (by simp)).below hB1 (by simp); have hBw : Below w.heap.size w w1 := ((((Below.refl w.heap.size w).alloc (Nat.le_refl _) _).alloc (by simp) _).alloc (by simp <;> omega) _).trans (hB1.mono (by simp <;> omega)); clear hB1))
    | (refine wpList_build_of rfl 26 #[] rfl zp ?_ ?_; (exact builtP0))
    | (refine wpList_store_own rfl 26 _ _ rfl _ _ rfl rfl 26 _ (hR1) (rowP (d9 _ _ (zlen8))) (rfl) (dcells_one _ _) ?_; intro w4 hO4 hN4))
  refine bodyPost_ret (v := .tuple #[.agg (zp), .int .i64 0, .int .i64 c]) (results_row_tmp2 (v := .int .i64 0) (v2 := .int .i64 c) rfl _ _ _ _ _ (0, 0) _ rfl (hO4) Try.underlying26 rfl (rowP (d9 _ _ (zlen8))) rfl rfl) rfl (⟨rfl, hBw.trans (hN4.below.mono (by omega))⟩)
set_option maxRecDepth 100000 in
set_option maxHeartbeats 1000000 in
theorem pmS_ok (n m : Int) (ms es : List Int) (hms : ms.length = 8) (hes : es.length = 8) (hb : Bytes ms) (hb2 : Bytes es) (hd : isP n ms = true) (hd2 : isP m es = true) (hne : n = m) (w : World) :
    Calls Try.prog 32 #[.agg (dcells n ms), .agg (dcells m es)] w fun e w' => e = .returned (.tuple #[.agg (dcells n (prP n.toNat ms es)), .int .i64 ((prC n.toNat ms es : Nat)), .int .i64 0]) ∧ Below w.heap.size w w' := by
  have hl := Lib.hid hms
  have hl2 := Lib.hid hes
  have hc := Lib.hid (fun w => ppair_ok n m ms es hms hes hb hb2 hd hd2 hne w)
  subst hne
  have hp := Lib.hid (fun w => timesPS_any n ms es hms hes hd hd2 w)
  have hlp := Lib.hid (prP_len n.toNat ms es (by have := isP_n hd; omega))
  generalize prP n.toNat ms es = pr at hp hlp ⊢
  generalize ((prC n.toNat ms es : Nat) : Int) = lc at hp ⊢
  clear hms hes hb hb2 hd hd2
  go_enter Try.func32, Try.ntmps32
  go_wp2_with (first
    | (refine wpList_load_row rfl 26 _ rfl _ rfl 26 _ (0, 0) _ (((Own.new _ _ _).alloc _).alloc _) Try.underlying26 rfl (rowP (d9 _ _ (hl.out))) ?_)
    | (refine wpList_load_row rfl 26 _ rfl _ rfl 26 _ (0, 0) _ ((Own.at _ _ _ (by simp)).alloc _) Try.underlying26 rfl (rowP (d9 _ _ (hl2.out))) ?_)
    | (go_at_call 56; ((with_reducible refine (hc.out _).mono ?_); rintro e w1 ⟨rfl, hB1⟩; have hA1 : Own w1 w.heap.size (dcells n ms) 26 := (((Own.new _ _ _).alloc _).alloc _).below hB1 (by simp <;> omega); have hA2 : Own w1 (w.heap.size + 1) (dcells n es) 26 := ((Own.at _ _ _ (by simp)).alloc _).below hB1 (by simp <;> omega); have hR1 : Own w1 (w.heap.size + 1 + 1) zp 26 := (Own.at _ _ _ (by simp)).below hB1 (by simp); have hBw : Below w.heap.size w w1 := ((((Below.refl w.heap.size w).alloc (Nat.le_refl _) _).alloc (by simp) _).alloc (by simp <;> omega) _).trans (hB1.mono (by simp <;> omega)); clear hB1))
    | (refine wpList_load_row rfl 26 _ rfl _ rfl 26 _ (0, 0) _ (hA1) Try.underlying26 rfl (rowP (d9 _ _ (hl.out))) ?_)
    | (refine wpList_load_row rfl 26 _ rfl _ rfl 26 _ (0, 0) _ (hA2) Try.underlying26 rfl (rowP (d9 _ _ (hl2.out))) ?_)
    | (go_at_call 57; ((with_reducible refine (hp.out _).mono ?_); rintro e w5 ⟨rfl, hB5⟩))
    | (refine wpList_store_own rfl 26 _ _ rfl _ _ rfl rfl 26 _ (Own.new w5 _ _) (rowP (d9 _ _ (hlp.out))) (z_eq8 (d9 _ _ hlp.out)) (dcells_one _ _) ?_; intro w6 hO6 hN6)
    | (refine wpList_load_row rfl 26 _ rfl _ rfl 26 _ (0, 0) _ (hO6) Try.underlying26 rfl (rowP (d9 _ _ (hlp.out))) ?_)
    | (refine wpList_store_own rfl 26 _ _ rfl _ _ rfl rfl 26 _ (((hR1.below hB5 hR1.lt).alloc _).only hN6 (Nat.ne_of_lt (Nat.lt_of_lt_of_le hR1.lt hB5.size))) (rowP (d9 _ _ (hlp.out))) (z_eq8 (d9 _ _ hlp.out)) (dcells_one _ _) ?_; intro w7 hO7 hN7))
  refine bodyPost_ret (v := .tuple #[.agg (dcells n pr), .int .i64 lc, .int .i64 0]) (results_row_tmp2 (v := .int .i64 lc) (v2 := .int .i64 0) rfl _ _ _ _ _ (0, 0) _ rfl (hO7) Try.underlying26 rfl (rowP (d9 _ _ (hlp.out))) rfl rfl) rfl (⟨rfl, ?_⟩)
  have b5 := hBw.trans (hB5.mono hBw.size)
  have b6 := (b5.alloc b5.size _).trans (hN6.below.mono b5.size)
  exact b6.trans (hN7.below.mono (by omega))
theorem pmul_law (n m : Int) (ms es : List Int) (hms : ms.length = 8) (hes : es.length = 8) (hb : Bytes ms) (hb2 : Bytes es) (w : World) :
    Calls Try.prog 11 #[.agg (dcells n ms), .agg (dcells m es)] w fun e w' => e = .returned (.bool true) ∧ Below w.heap.size w w' := by
  cases hd : isP n ms with
  | false => exact MultiplyPartitions_walk n m ms es hms hes w 0 0 1 zer8 zlen8 (pmS_err n m 1 ms es hms hes (by omega) (by omega) (ppair_bad1 n m ms es hms hes hb hb2 hd)) (pmI_bad1 n m ms es hms hes hb hb2 hd)
  | true =>
    cases hd2 : isP m es with
    | false => exact MultiplyPartitions_walk n m ms es hms hes w 0 0 1 zer8 zlen8 (pmS_err n m 1 ms es hms hes (by omega) (by omega) (ppair_bad2 n m ms es hms hes hb hb2 hd hd2)) (pmI_bad2 n m ms es hms hes hb hb2 hd hd2)
    | true =>
      by_cases h : n = m
      · exact MultiplyPartitions_walk n m ms es hms hes w n _ 0 _ (prP_len _ _ _ (by have := isP_n hd; omega)) (pmS_ok n m ms es hms hes hb hb2 hd hd2 h) (pmI_ok n m ms es hms hes hb hb2 hd hd2 h)
      · exact MultiplyPartitions_walk n m ms es hms hes w 0 0 2 zer8 zlen8 (pmS_err n m 2 ms es hms hes (by omega) (by omega) (ppair_sizes n m ms es hms hes hb hb2 hd hd2 h)) (pmI_sizes n m ms es hms hes hb hb2 hd hd2 h)
end Go.Proofs.Ytjecafjdlfdpcaa
