/- Contracts of MultiplyDiagrams, the program's and the model's. -/
import Derived.Test.YtjgmfhalecfjbaaMulS
import Derived.Test.YtjgmfhalecfjbaaLawD
namespace Go.Proofs.Ytjgmfhalecfjbaa
open Go.RowKit
set_option linter.unusedVariables false
theorem results_row_tmp2 {P : Program} {fn : Func} {p u u2 : Tmp} {ty : TypeId} (h : fn.results = #[.cell p ty, .tmp u, .tmp u2]) (tmps : Array Value) (w : World) (g : Nat) (t : TypeId) (cs : Array Value) (fr : Nat × Nat) (d : TypeDesc)
    (hp : tmps.getD p undef = .pointer (some ⟨g, 0, none⟩)) (hg : w.heap[g]? = some (.cells cs t fr))
    (hu : P.underlying ty = some d) (hd : (match d with | .struct _ | .array _ _ => true | _ => false) = true) (hi : (P.info? ty).map (·.size) = some cs.size) (v : Value) (hv : tmps.getD u undef = v) (v2 : Value) (hv2 : tmps.getD u2 undef = v2) :
    (results fn tmps).run P w = .ok (.tuple #[.agg cs, v, v2]) w := by
  have e : (results fn tmps).run P w =
      ((asAddr (tmps.getD p undef)).run P w).andThen fun a w₁ => ((loadVar ty a).run P w₁).andThen fun v w₂ => .ok (.tuple #[v, tmps.getD u undef, tmps.getD u2 undef]) w₂ := by
    simp only [results, h]
    simp [Sem.run_bind, Result.andThen]
  rw [e, hp, hv, hv2]
  simp [asAddr, run_loadVar_row w g t ty cs fr d hg hu hd hi, Result.andThen]
set_option maxRecDepth 100000 in
set_option maxHeartbeats 1000000 in
theorem mulI_bad1 (n m : Int) (ms es : List Int) (hms : ms.length = 16) (hes : es.length = 16) (hb : Bytes ms) (hb2 : Bytes es) (hd : isD n ms = false) (w : World) :
    Calls Try.prog 18 #[.agg (dcells n ms), .agg (dcells m es)] w fun e w' => e = .returned (.tuple #[.agg zcells, .int .i64 0, .int .i64 1]) ∧ Below w.heap.size w w' := by
  have hl := Lib.hid hms
  have hl2 := Lib.hid hes
  have hc := Lib.hid (fun w => isI_any n ms hms hb w)
  rw [hd] at hc
  clear hms hes hb hb2 hd
  go_enter Try.func18, Try.ntmps18
  go_wp2_with (first
    | (refine wpList_load_row rfl 25 _ rfl _ rfl 25 _ (0, 0) _ (((Own.new _ _ _).alloc _).alloc _) Try.underlying25 rfl (row26 (d17 _ _ (hl.out))) ?_)
    | (go_at_call 33; ((with_reducible refine (hc.out _).mono ?_); rintro e w1 ⟨rfl, hB1⟩; have hA1 : Own w1 w.heap.size (dcells n ms) 25 := (((Own.new _ _ _).alloc _).alloc _).below hB1 (by simp <;> omega); have hA2 : Own w1 (w.heap.size + 1) (dcells m es) 25 := ((Own.at _ _ _ (by simp)).alloc _).below hB1 (by simp <;> omega); have hR1 : Own w1 (w.heap.size + 1 + 1) zcells 25 := (Own.at _ _ _ (by simp)).below hB1 (by simp); have hBw : Below w.heap.size w w1 := ((((Below.refl w.heap.size w).alloc (Nat.le_refl _) _).alloc (by simp) _).alloc (by simp <;> omega) _).trans (hB1.mono (by simp <;> omega)); clear hB1))
    | (refine wpList_build_of rfl 25 #[] rfl zcells ?_ ?_; (exact built26nil))
    | (refine wpList_store_own rfl 25 _ _ rfl _ _ rfl rfl 25 _ (hR1) (row26 (d17 _ _ (zlen))) (rfl) (dcells_one _ _) ?_; intro w4 hO4 hN4))
  refine bodyPost_ret (v := .tuple #[.agg (zcells), .int .i64 0, .int .i64 1]) (results_row_tmp2 (v := .int .i64 0) (v2 := .int .i64 1) rfl _ _ _ _ _ (0, 0) _ rfl (hO4) Try.underlying25 rfl (row26 (d17 _ _ (zlen))) rfl rfl) rfl (⟨rfl, hBw.trans (hN4.below.mono (by omega))⟩)
set_option maxRecDepth 100000 in
set_option maxHeartbeats 1000000 in
theorem mulI_bad2 (n m : Int) (ms es : List Int) (hms : ms.length = 16) (hes : es.length = 16) (hb : Bytes ms) (hb2 : Bytes es) (hd : isD n ms = true) (hd2 : isD m es = false) (w : World) :
    Calls Try.prog 18 #[.agg (dcells n ms), .agg (dcells m es)] w fun e w' => e = .returned (.tuple #[.agg zcells, .int .i64 0, .int .i64 1]) ∧ Below w.heap.size w w' := by
  have hl := Lib.hid hms
  have hl2 := Lib.hid hes
  have hc := Lib.hid (fun w => isI_any n ms hms hb w)
  have hc2 := Lib.hid (fun w => isI_any m es hes hb2 w)
  rw [hd] at hc
  rw [hd2] at hc2
  clear hms hes hb hb2 hd hd2
  go_enter Try.func18, Try.ntmps18
  go_wp2_with (first
    | (refine wpList_load_row rfl 25 _ rfl _ rfl 25 _ (0, 0) _ (((Own.new _ _ _).alloc _).alloc _) Try.underlying25 rfl (row26 (d17 _ _ (hl.out))) ?_)
    | (refine wpList_load_row_if rfl 25 _ rfl _ rfl 25 _ _ (hA2) Try.underlying25 rfl (row26 (d17 _ _ (hl2.out))) ?_)
    | (go_at_call 33; ((with_reducible refine (hc2.out w1).mono ?_); rintro e w2 ⟨rfl, hB2⟩; have hA3 := hA1.below hB2 hA1.lt; have hA4 := hA2.below hB2 hA2.lt; have hR2 := hR1.below hB2 hR1.lt; have hBx : Below w.heap.size w w2 := hBw.trans (hB2.mono hBw.size); have hC3 := hA3.cell 0; rw [dcells_zero] at hC3; have hC4 := hA4.cell 0; rw [dcells_zero] at hC4; clear hA1 hA2 hR1 hBw hB2))
    | (go_at_call 33; ((with_reducible refine (hc.out _).mono ?_); rintro e w1 ⟨rfl, hB1⟩; have hA1 : Own w1 w.heap.size (dcells n ms) 25 := (((Own.new _ _ _).alloc _).alloc _).below hB1 (by simp <;> omega); have hA2 : Own w1 (w.heap.size + 1) (dcells m es) 25 := ((Own.at _ _ _ (by simp)).alloc _).below hB1 (by simp <;> omega); have hR1 : Own w1 (w.heap.size + 1 + 1) zcells 25 := (Own.at _ _ _ (by simp)).below hB1 (by simp); have hBw : Below w.heap.size w w1 := ((((Below.refl w.heap.size w).alloc (Nat.le_refl _) _).alloc (by simp) _).alloc (by simp <;> omega) _).trans (hB1.mono (by simp <;> omega)); clear hB1))
    | (refine wpList_build_of rfl 25 #[] rfl zcells ?_ ?_; (exact built26nil))
    | (refine wpList_store_own rfl 25 _ _ rfl _ _ rfl rfl 25 _ (hR2) (row26 (d17 _ _ (zlen))) (rfl) (dcells_one _ _) ?_; intro w4 hO4 hN4))
  refine bodyPost_ret (v := .tuple #[.agg (zcells), .int .i64 0, .int .i64 1]) (results_row_tmp2 (v := .int .i64 0) (v2 := .int .i64 1) rfl _ _ _ _ _ (0, 0) _ rfl (hO4) Try.underlying25 rfl (row26 (d17 _ _ (zlen))) rfl rfl) rfl (⟨rfl, hBx.trans (hN4.below.mono (by omega))⟩)
set_option maxRecDepth 100000 in
set_option maxHeartbeats 1000000 in
theorem mulI_sizes (n m : Int) (ms es : List Int) (hms : ms.length = 16) (hes : es.length = 16) (hb : Bytes ms) (hb2 : Bytes es) (hd : isD n ms = true) (hd2 : isD m es = true) (hne : n ≠ m) (w : World) :
    Calls Try.prog 18 #[.agg (dcells n ms), .agg (dcells m es)] w fun e w' => e = .returned (.tuple #[.agg zcells, .int .i64 0, .int .i64 2]) ∧ Below w.heap.size w w' := by
  have hl := Lib.hid hms
  have hl2 := Lib.hid hes
  have hc := Lib.hid (fun w => isI_any n ms hms hb w)
  have hc2 := Lib.hid (fun w => isI_any m es hes hb2 w)
  rw [hd] at hc
  rw [hd2] at hc2
  clear hms hes hb hb2 hd hd2
  go_enter Try.func18, Try.ntmps18
  go_wp2_with (first
    | (refine wpList_load_row rfl 25 _ rfl _ rfl 25 _ (0, 0) _ (((Own.new _ _ _).alloc _).alloc _) Try.underlying25 rfl (row26 (d17 _ _ (hl.out))) ?_)
    | (refine wpList_load_row_if rfl 25 _ rfl _ rfl 25 _ _ (hA2) Try.underlying25 rfl (row26 (d17 _ _ (hl2.out))) ?_)
    | (go_at_call 33; ((with_reducible refine (hc2.out w1).mono ?_); rintro e w2 ⟨rfl, hB2⟩; have hA3 := hA1.below hB2 hA1.lt; have hA4 := hA2.below hB2 hA2.lt; have hR2 := hR1.below hB2 hR1.lt; have hBx : Below w.heap.size w w2 := hBw.trans (hB2.mono hBw.size); have hC3 := hA3.cell 0; rw [dcells_zero] at hC3; have hC4 := hA4.cell 0; rw [dcells_zero] at hC4; clear hA1 hA2 hR1 hBw hB2))
    | (go_at_call 33; ((with_reducible refine (hc.out _).mono ?_); rintro e w1 ⟨rfl, hB1⟩; have hA1 : Own w1 w.heap.size (dcells n ms) 25 := (((Own.new _ _ _).alloc _).alloc _).below hB1 (by simp <;> omega); have hA2 : Own w1 (w.heap.size + 1) (dcells m es) 25 := ((Own.at _ _ _ (by simp)).alloc _).below hB1 (by simp <;> omega); have hR1 : Own w1 (w.heap.size + 1 + 1) zcells 25 := (Own.at _ _ _ (by simp)).below hB1 (by simp); have hBw : Below w.heap.size w w1 := ((((Below.refl w.heap.size w).alloc (Nat.le_refl _) _).alloc (by simp) _).alloc (by simp <;> omega) _).trans (hB1.mono (by simp <;> omega)); clear hB1))
    | (refine wpList_build_of rfl 25 #[] rfl zcells ?_ ?_; (exact built26nil))
    | (refine wpList_store_own rfl 25 _ _ rfl _ _ rfl rfl 25 _ (hR2) (row26 (d17 _ _ (zlen))) (rfl) (dcells_one _ _) ?_; intro w4 hO4 hN4))
  refine bodyPost_ret (v := .tuple #[.agg (zcells), .int .i64 0, .int .i64 2]) (results_row_tmp2 (v := .int .i64 0) (v2 := .int .i64 2) rfl _ _ _ _ _ (0, 0) _ rfl (hO4) Try.underlying25 rfl (row26 (d17 _ _ (zlen))) rfl rfl) rfl (⟨rfl, hBx.trans (hN4.below.mono (by omega))⟩)
set_option maxRecDepth 100000 in
set_option maxHeartbeats 1000000 in
theorem mulI_ok (n m : Int) (ms es : List Int) (hms : ms.length = 16) (hes : es.length = 16) (hb : Bytes ms) (hb2 : Bytes es) (hd : isD n ms = true) (hd2 : isD m es = true) (hne : n = m) (w : World) :
    Calls Try.prog 18 #[.agg (dcells n ms), .agg (dcells m es)] w fun e w' => e = .returned (.tuple #[.agg (dcells n (prodL n (mate ms) (mate es))), .int .i64 (loopsP n (mate ms) (mate es)), .int .i64 0]) ∧ Below w.heap.size w w' := by
  have hl := Lib.hid hms
  have hl2 := Lib.hid hes
  have hc := Lib.hid (fun w => isI_any n ms hms hb w)
  have hc2 := Lib.hid (fun w => isI_any m es hes hb2 w)
  rw [hd] at hc
  rw [hd2] at hc2
  subst hne
  have hp := Lib.hid (fun w => prodI_any n ms es hms hes hb hb2 ((isD_iff n ms hms hb).1 hd) ((isD_iff n es hes hb2).1 hd2) w)
  have hlp := Lib.hid (prodL_len n (mate ms) (mate es))
  generalize prodL n (mate ms) (mate es) = pr at hp hlp ⊢
  generalize loopsP n (mate ms) (mate es) = lc at hp ⊢
  clear hms hes hb hb2 hd hd2
  go_enter Try.func18, Try.ntmps18
  go_wp2_with (first
    | (refine wpList_load_row rfl 25 _ rfl _ rfl 25 _ (0, 0) _ (((Own.new _ _ _).alloc _).alloc _) Try.underlying25 rfl (row26 (d17 _ _ (hl.out))) ?_)
    | (refine wpList_load_row_if rfl 25 _ rfl _ rfl 25 _ _ (hA2) Try.underlying25 rfl (row26 (d17 _ _ (hl2.out))) ?_)
    | (go_at_call 33; ((with_reducible refine (hc2.out w1).mono ?_); rintro e w2 ⟨rfl, hB2⟩; have hA3 := hA1.below hB2 hA1.lt; have hA4 := hA2.below hB2 hA2.lt; have hR2 := hR1.below hB2 hR1.lt; have hBx : Below w.heap.size w w2 := hBw.trans (hB2.mono hBw.size); have hC3 := hA3.cell 0; rw [dcells_zero] at hC3; have hC4 := hA4.cell 0; rw [dcells_zero] at hC4; clear hA1 hA2 hR1 hBw hB2))
    | (go_at_call 33; ((with_reducible refine (hc.out _).mono ?_); rintro e w1 ⟨rfl, hB1⟩; have hA1 : Own w1 w.heap.size (dcells n ms) 25 := (((Own.new _ _ _).alloc _).alloc _).below hB1 (by simp <;> omega); have hA2 : Own w1 (w.heap.size + 1) (dcells n es) 25 := ((Own.at _ _ _ (by simp)).alloc _).below hB1 (by simp <;> omega); have hR1 : Own w1 (w.heap.size + 1 + 1) zcells 25 := (Own.at _ _ _ (by simp)).below hB1 (by simp); have hBw : Below w.heap.size w w1 := ((((Below.refl w.heap.size w).alloc (Nat.le_refl _) _).alloc (by simp) _).alloc (by simp <;> omega) _).trans (hB1.mono (by simp <;> omega)); clear hB1))
    | (refine wpList_load_row rfl 25 _ rfl _ rfl 25 _ (0, 0) _ (hA3) Try.underlying25 rfl (row26 (d17 _ _ (hl.out))) ?_)
    | (refine wpList_load_row rfl 25 _ rfl _ rfl 25 _ (0, 0) _ (hA4) Try.underlying25 rfl (row26 (d17 _ _ (hl2.out))) ?_)
    | (go_at_call 34; ((with_reducible refine (hp.out _).mono ?_); rintro e w5 ⟨rfl, hB5⟩))
    | (refine wpList_store_own rfl 25 _ _ rfl _ _ rfl rfl 25 _ (Own.new w5 _ _) (row26 (d17 _ _ (hlp.out))) (z_eq (d17 _ _ hlp.out)) (dcells_one _ _) ?_; intro w6 hO6 hN6)
    | (refine wpList_load_row rfl 25 _ rfl _ rfl 25 _ (0, 0) _ (hO6) Try.underlying25 rfl (row26 (d17 _ _ (hlp.out))) ?_)
    | (refine wpList_store_own rfl 25 _ _ rfl _ _ rfl rfl 25 _ (((hR2.below hB5 hR2.lt).alloc _).only hN6 (Nat.ne_of_lt (Nat.lt_of_lt_of_le hR2.lt hB5.size))) (row26 (d17 _ _ (hlp.out))) (z_eq (d17 _ _ hlp.out)) (dcells_one _ _) ?_; intro w7 hO7 hN7))
  refine bodyPost_ret (v := .tuple #[.agg (dcells n pr), .int .i64 lc, .int .i64 0]) (results_row_tmp2 (v := .int .i64 lc) (v2 := .int .i64 0) rfl _ _ _ _ _ (0, 0) _ rfl (hO7) Try.underlying25 rfl (row26 (d17 _ _ (hlp.out))) rfl rfl) rfl (⟨rfl, ?_⟩)
  have b5 := hBx.trans (hB5.mono hBx.size)
  have b6 := (b5.alloc b5.size _).trans (hN6.below.mono b5.size)
  exact b6.trans (hN7.below.mono (by omega))
set_option maxRecDepth 100000 in
theorem pair_bad1 (n m : Int) (ms es : List Int) (hms : ms.length = 16) (hes : es.length = 16) (hb : Bytes ms) (hb2 : Bytes es) (hd : isD n ms = false) (w : World) :
    Calls Try.prog 30 #[.agg (dcells n ms), .agg (dcells m es)] w fun e w' => e = .returned (.int .i64 1) ∧ Below w.heap.size w w' := by
  have hl := Lib.hid hms
  have hl2 := Lib.hid hes
  have hc := Lib.hid (fun w => l01Is_dec n ms hms hb w)
  rw [hd] at hc
  clear hms hes hb hb2 hd
  go_enter Try.func30, Try.ntmps30
  go_wp2_with (first
    | (refine wpList_load_row rfl 25 _ rfl _ rfl 25 _ (0, 0) _ ((Own.new _ _ _).alloc _) Try.underlying25 rfl (row26 (d17 _ _ (hl.out))) ?_)
    | (go_at_call 47; ((with_reducible refine (hc.out _).mono ?_); rintro e w1 ⟨rfl, hB1⟩; have hA1 : Own w1 w.heap.size (dcells n ms) 25 := ((Own.new _ _ _).alloc _).below hB1 (by simp <;> omega); have hA2 : Own w1 (w.heap.size + 1) (dcells m es) 25 := (Own.at _ _ _ (by simp)).below hB1 (by simp <;> omega); have hBw : Below w.heap.size w w1 := (((Below.refl w.heap.size w).alloc (Nat.le_refl _) _).alloc (by simp) _).trans (hB1.mono (by simp <;> omega)); clear hB1))
    | fail)
  go_ret
  exact ⟨rfl, hBw⟩
set_option maxRecDepth 100000 in
theorem pair_bad2 (n m : Int) (ms es : List Int) (hms : ms.length = 16) (hes : es.length = 16) (hb : Bytes ms) (hb2 : Bytes es) (hd : isD n ms = true) (hd2 : isD m es = false) (w : World) :
    Calls Try.prog 30 #[.agg (dcells n ms), .agg (dcells m es)] w fun e w' => e = .returned (.int .i64 1) ∧ Below w.heap.size w w' := by
  have hl := Lib.hid hms
  have hl2 := Lib.hid hes
  have hc := Lib.hid (fun w => l01Is_dec n ms hms hb w)
  have hc2 := Lib.hid (fun w => l01Is_dec m es hes hb2 w)
  rw [hd] at hc
  rw [hd2] at hc2
  clear hms hes hb hb2 hd hd2
  go_enter Try.func30, Try.ntmps30
  go_wp2_with (first
    | (refine wpList_load_row rfl 25 _ rfl _ rfl 25 _ (0, 0) _ ((Own.new _ _ _).alloc _) Try.underlying25 rfl (row26 (d17 _ _ (hl.out))) ?_)
    | (refine wpList_load_row_if rfl 25 _ rfl _ rfl 25 _ _ (hA2) Try.underlying25 rfl (row26 (d17 _ _ (hl2.out))) ?_)
    | (go_at_call 47; ((with_reducible refine (hc2.out w1).mono ?_); rintro e w2 ⟨rfl, hB2⟩; have hA3 := hA1.below hB2 hA1.lt; have hA4 := hA2.below hB2 hA2.lt; have hBx : Below w.heap.size w w2 := hBw.trans (hB2.mono hBw.size); have hC3 := hA3.cell 0; rw [dcells_zero] at hC3; have hC4 := hA4.cell 0; rw [dcells_zero] at hC4; clear hA1 hA2 hBw hB2))
    | (go_at_call 47; ((with_reducible refine (hc.out _).mono ?_); rintro e w1 ⟨rfl, hB1⟩; have hA1 : Own w1 w.heap.size (dcells n ms) 25 := ((Own.new _ _ _).alloc _).below hB1 (by simp <;> omega); have hA2 : Own w1 (w.heap.size + 1) (dcells m es) 25 := (Own.at _ _ _ (by simp)).below hB1 (by simp <;> omega); have hBw : Below w.heap.size w w1 := (((Below.refl w.heap.size w).alloc (Nat.le_refl _) _).alloc (by simp) _).trans (hB1.mono (by simp <;> omega)); clear hB1)))
  go_ret
  exact ⟨rfl, hBx⟩
set_option maxRecDepth 100000 in
theorem pair_sizes (n m : Int) (ms es : List Int) (hms : ms.length = 16) (hes : es.length = 16) (hb : Bytes ms) (hb2 : Bytes es) (hd : isD n ms = true) (hd2 : isD m es = true) (hne : n ≠ m) (w : World) :
    Calls Try.prog 30 #[.agg (dcells n ms), .agg (dcells m es)] w fun e w' => e = .returned (.int .i64 2) ∧ Below w.heap.size w w' := by
  have hl := Lib.hid hms
  have hl2 := Lib.hid hes
  have hc := Lib.hid (fun w => l01Is_dec n ms hms hb w)
  have hc2 := Lib.hid (fun w => l01Is_dec m es hes hb2 w)
  rw [hd] at hc
  rw [hd2] at hc2
  clear hms hes hb hb2 hd hd2
  go_enter Try.func30, Try.ntmps30
  go_wp2_with (first
    | (refine wpList_load_row rfl 25 _ rfl _ rfl 25 _ (0, 0) _ ((Own.new _ _ _).alloc _) Try.underlying25 rfl (row26 (d17 _ _ (hl.out))) ?_)
    | (refine wpList_load_row_if rfl 25 _ rfl _ rfl 25 _ _ (hA2) Try.underlying25 rfl (row26 (d17 _ _ (hl2.out))) ?_)
    | (go_at_call 47; ((with_reducible refine (hc2.out w1).mono ?_); rintro e w2 ⟨rfl, hB2⟩; have hA3 := hA1.below hB2 hA1.lt; have hA4 := hA2.below hB2 hA2.lt; have hBx : Below w.heap.size w w2 := hBw.trans (hB2.mono hBw.size); have hC3 := hA3.cell 0; rw [dcells_zero] at hC3; have hC4 := hA4.cell 0; rw [dcells_zero] at hC4; clear hA1 hA2 hBw hB2))
    | (go_at_call 47; ((with_reducible refine (hc.out _).mono ?_); rintro e w1 ⟨rfl, hB1⟩; have hA1 : Own w1 w.heap.size (dcells n ms) 25 := ((Own.new _ _ _).alloc _).below hB1 (by simp <;> omega); have hA2 : Own w1 (w.heap.size + 1) (dcells m es) 25 := (Own.at _ _ _ (by simp)).below hB1 (by simp <;> omega); have hBw : Below w.heap.size w w1 := (((Below.refl w.heap.size w).alloc (Nat.le_refl _) _).alloc (by simp) _).trans (hB1.mono (by simp <;> omega)); clear hB1)))
  go_ret
  exact ⟨rfl, hBx⟩
set_option maxRecDepth 100000 in
theorem pair_ok (n m : Int) (ms es : List Int) (hms : ms.length = 16) (hes : es.length = 16) (hb : Bytes ms) (hb2 : Bytes es) (hd : isD n ms = true) (hd2 : isD m es = true) (hne : n = m) (w : World) :
    Calls Try.prog 30 #[.agg (dcells n ms), .agg (dcells m es)] w fun e w' => e = .returned (.int .i64 0) ∧ Below w.heap.size w w' := by
  have hl := Lib.hid hms
  have hl2 := Lib.hid hes
  have hc := Lib.hid (fun w => l01Is_dec n ms hms hb w)
  subst hne
  have hc2 := Lib.hid (fun w => l01Is_dec n es hes hb2 w)
  rw [hd] at hc
  rw [hd2] at hc2
  clear hms hes hb hb2 hd hd2
  go_enter Try.func30, Try.ntmps30
  go_wp2_with (first
    | (refine wpList_load_row rfl 25 _ rfl _ rfl 25 _ (0, 0) _ ((Own.new _ _ _).alloc _) Try.underlying25 rfl (row26 (d17 _ _ (hl.out))) ?_)
    | (refine wpList_load_row_if rfl 25 _ rfl _ rfl 25 _ _ (hA2) Try.underlying25 rfl (row26 (d17 _ _ (hl2.out))) ?_)
    | (go_at_call 47; ((with_reducible refine (hc2.out w1).mono ?_); rintro e w2 ⟨rfl, hB2⟩; have hA3 := hA1.below hB2 hA1.lt; have hA4 := hA2.below hB2 hA2.lt; have hBx : Below w.heap.size w w2 := hBw.trans (hB2.mono hBw.size); have hC3 := hA3.cell 0; rw [dcells_zero] at hC3; have hC4 := hA4.cell 0; rw [dcells_zero] at hC4; clear hA1 hA2 hBw hB2))
    | (go_at_call 47; ((with_reducible refine (hc.out _).mono ?_); rintro e w1 ⟨rfl, hB1⟩; have hA1 : Own w1 w.heap.size (dcells n ms) 25 := ((Own.new _ _ _).alloc _).below hB1 (by simp <;> omega); have hA2 : Own w1 (w.heap.size + 1) (dcells n es) 25 := (Own.at _ _ _ (by simp)).below hB1 (by simp <;> omega); have hBw : Below w.heap.size w w1 := (((Below.refl w.heap.size w).alloc (Nat.le_refl _) _).alloc (by simp) _).trans (hB1.mono (by simp <;> omega)); clear hB1)))
  go_ret
  exact ⟨rfl, hBx⟩
set_option maxRecDepth 100000 in
set_option maxHeartbeats 1000000 in
theorem mulS_err (n m c : Int) (ms es : List Int) (hms : ms.length = 16) (hes : es.length = 16) (h0 : c ≠ 0) (h0' : 0 ≤ c ∧ c ≤ 6) (hp : ∀ w, Calls Try.prog 30 #[.agg (dcells n ms), .agg (dcells m es)] w fun e w' => e = .returned (.int .i64 c) ∧ Below w.heap.size w w') (w : World) :
    Calls Try.prog 16 #[.agg (dcells n ms), .agg (dcells m es)] w fun e w' => e = .returned (.tuple #[.agg zcells, .int .i64 0, .int .i64 c]) ∧ Below w.heap.size w w' := by
  have hl := Lib.hid hms
  have hl2 := Lib.hid hes
  have hc := Lib.hid hp
  clear hms hes hp
  go_enter Try.func16, Try.ntmps16
  go_wp2_with (first
    | (refine wpList_load_row rfl 25 _ rfl _ rfl 25 _ (0, 0) _ (((Own.new _ _ _).alloc _).alloc _) Try.underlying25 rfl (row26 (d17 _ _ (hl.out))) ?_)
    | (refine wpList_load_row rfl 25 _ rfl _ rfl 25 _ (0, 0) _ ((Own.at _ _ _ (by simp)).alloc _) Try.underlying25 rfl (row26 (d17 _ _ (hl2.out))) ?_)
    | (go_at_call 30; ((with_reducible refine (hc.out _).mono ?_); rintro e w1 ⟨rfl, hB1⟩; have hA1 : Own w1 w.heap.size (dcells n ms) 25 := (((Own.new _ _ _).alloc _).alloc _).below hB1 (by simp <;> omega); have hA2 : Own w1 (w.heap.size + 1) (dcells m es) 25 := ((Own.at _ _ _ (by simp)).alloc _).below hB1 (by simp <;> omega); have hR1 : Own w1 (w.heap.size + 1 + 1) zcells 25 := (Own.at _ _ _ (by simp)).below hB1 (by simp); have hBw : Below w.heap.size w w1 := ((((Below.refl w.heap.size w).alloc (Nat.le_refl _) _).alloc (by simp) _).alloc (by simp <;> omega) _).trans (hB1.mono (by simp <;> omega)); clear hB1))
    | (refine wpList_build_of rfl 25 #[] rfl zcells ?_ ?_; (exact built26nil))
    | (refine wpList_store_own rfl 25 _ _ rfl _ _ rfl rfl 25 _ (hR1) (row26 (d17 _ _ (zlen))) (rfl) (dcells_one _ _) ?_; intro w4 hO4 hN4))
  refine bodyPost_ret (v := .tuple #[.agg (zcells), .int .i64 0, .int .i64 c]) (results_row_tmp2 (v := .int .i64 0) (v2 := .int .i64 c) rfl _ _ _ _ _ (0, 0) _ rfl (hO4) Try.underlying25 rfl (row26 (d17 _ _ (zlen))) rfl rfl) rfl (⟨rfl, hBw.trans (hN4.below.mono (by omega))⟩)
set_option maxRecDepth 100000 in
set_option maxHeartbeats 1000000 in
theorem mulS_ok (n m : Int) (ms es : List Int) (hms : ms.length = 16) (hes : es.length = 16) (hb : Bytes ms) (hb2 : Bytes es) (hd : isD n ms = true) (hd2 : isD m es = true) (hne : n = m) (w : World) :
    Calls Try.prog 16 #[.agg (dcells n ms), .agg (dcells m es)] w fun e w' => e = .returned (.tuple #[.agg (dcells n (prodL n (mate ms) (mate es))), .int .i64 (loopsP n (mate ms) (mate es)), .int .i64 0]) ∧ Below w.heap.size w w' := by
  have hl := Lib.hid hms
  have hl2 := Lib.hid hes
  have hc := Lib.hid (fun w => pair_ok n m ms es hms hes hb hb2 hd hd2 hne w)
  subst hne
  have hp := Lib.hid (fun w => timesS_any n ms es hms hes hb hb2 ((isD_iff n ms hms hb).1 hd) ((isD_iff n es hes hb2).1 hd2) w)
  have hlp := Lib.hid (prodL_len n (mate ms) (mate es))
  generalize prodL n (mate ms) (mate es) = pr at hp hlp ⊢
  generalize loopsP n (mate ms) (mate es) = lc at hp ⊢
  clear hms hes hb hb2 hd hd2
  go_enter Try.func16, Try.ntmps16
  go_wp2_with (first
    | (refine wpList_load_row rfl 25 _ rfl _ rfl 25 _ (0, 0) _ (((Own.new _ _ _).alloc _).alloc _) Try.underlying25 rfl (row26 (d17 _ _ (hl.out))) ?_)
    | (refine wpList_load_row rfl 25 _ rfl _ rfl 25 _ (0, 0) _ ((Own.at _ _ _ (by simp)).alloc _) Try.underlying25 rfl (row26 (d17 _ _ (hl2.out))) ?_)
    | (go_at_call 30; ((with_reducible refine (hc.out _).mono ?_); rintro e w1 ⟨rfl, hB1⟩; have hA1 : Own w1 w.heap.size (dcells n ms) 25 := (((Own.new _ _ _).alloc _).alloc _).below hB1 (by simp <;> omega); have hA2 : Own w1 (w.heap.size + 1) (dcells n es) 25 := ((Own.at _ _ _ (by simp)).alloc _).below hB1 (by simp <;> omega); have hR1 : Own w1 (w.heap.size + 1 + 1) zcells 25 := (Own.at _ _ _ (by simp)).below hB1 (by simp); have hBw : Below w.heap.size w w1 := ((((Below.refl w.heap.size w).alloc (Nat.le_refl _) _).alloc (by simp) _).alloc (by simp <;> omega) _).trans (hB1.mono (by simp <;> omega)); clear hB1))
    | (refine wpList_load_row rfl 25 _ rfl _ rfl 25 _ (0, 0) _ (hA1) Try.underlying25 rfl (row26 (d17 _ _ (hl.out))) ?_)
    | (refine wpList_load_row rfl 25 _ rfl _ rfl 25 _ (0, 0) _ (hA2) Try.underlying25 rfl (row26 (d17 _ _ (hl2.out))) ?_)
    | (go_at_call 31; ((with_reducible refine (hp.out _).mono ?_); rintro e w5 ⟨rfl, hB5⟩))
    | (refine wpList_store_own rfl 25 _ _ rfl _ _ rfl rfl 25 _ (Own.new w5 _ _) (row26 (d17 _ _ (hlp.out))) (z_eq (d17 _ _ hlp.out)) (dcells_one _ _) ?_; intro w6 hO6 hN6)
    | (refine wpList_load_row rfl 25 _ rfl _ rfl 25 _ (0, 0) _ (hO6) Try.underlying25 rfl (row26 (d17 _ _ (hlp.out))) ?_)
    | (refine wpList_store_own rfl 25 _ _ rfl _ _ rfl rfl 25 _ (((hR1.below hB5 hR1.lt).alloc _).only hN6 (Nat.ne_of_lt (Nat.lt_of_lt_of_le hR1.lt hB5.size))) (row26 (d17 _ _ (hlp.out))) (z_eq (d17 _ _ hlp.out)) (dcells_one _ _) ?_; intro w7 hO7 hN7))
  refine bodyPost_ret (v := .tuple #[.agg (dcells n pr), .int .i64 lc, .int .i64 0]) (results_row_tmp2 (v := .int .i64 lc) (v2 := .int .i64 0) rfl _ _ _ _ _ (0, 0) _ rfl (hO7) Try.underlying25 rfl (row26 (d17 _ _ (hlp.out))) rfl rfl) rfl (⟨rfl, ?_⟩)
  have b5 := hBw.trans (hB5.mono hBw.size)
  have b6 := (b5.alloc b5.size _).trans (hN6.below.mono b5.size)
  exact b6.trans (hN7.below.mono (by omega))
end Go.Proofs.Ytjgmfhalecfjbaa
