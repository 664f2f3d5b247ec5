/- The surrounding diagram: the program's. -/
import Derived.Test.YtblbnlpbefmieaaPss
import Derived.Test.YtblbnlpbefmieaaOn
namespace Go.Proofs.Ytblbnlpbefmieaa
open Go.RowKit
set_option linter.unusedVariables false
theorem Own.rdm {w : World} {b : Nat} {xs : List Int} {t : TypeId} (h : Own w b (mcells xs) t) : Rdf (Value.int .u8) w b 0 xs := by
  intro j hj
  rw [Nat.zero_add, h.cell, mcells_get _ _ hj]
theorem planI_cr {ga gp P m : Nat} {a : List Int} (hl : a.length = m) (h8 : m ≤ 8) (r : Bool) (hr : r = true ↔ ¬ Crs a m) (w : World) (hO : Own w ga (mcells a) 5) :
    Calls Try.prog 85 #[.agg (shc ga gp m P)] w fun e w' => e = .returned (.bool r) ∧ Below w.heap.size w w' :=
  (planI_any ga gp P m a w hl h8 hO.lt hO.rdm).mono fun e w' ⟨r2, he, h2, hB⟩ => ⟨by rw [he, show r2 = r by cases r <;> cases r2 <;> simp_all], hB⟩
theorem planS_cr (N : Nat) (ms : List Int) (hms : ms.length = 8) (h1 : 1 ≤ N) (h4 : N ≤ 4) (r : Bool) (hr : r = true ↔ ¬ Crs (arZ N ms N (2 * N)) (2 * N)) (w : World) :
    Calls Try.prog 91 #[.agg (dcells N ms)] w fun e w' => e = .returned (.bool r) ∧ Below w.heap.size w w' :=
  (planS_any N ms hms h1 h4 w).mono fun e w' ⟨r2, he, h2, hB⟩ => ⟨by rw [he, show r2 = r by cases r <;> cases r2 <;> simp_all], hB⟩
set_option maxRecDepth 100000 in
set_option maxHeartbeats 4000000 in
theorem surDS_ok (N : Nat) (ms : List Int) (hms : ms.length = 8) (hb : Bytes ms) (hd : isP N ms = true) (hc : ¬ Crs (arZ N ms N (2 * N)) (2 * N)) (w : World) (h1 : 1 ≤ N) (h4 : N ≤ 4) :
    Calls Try.prog 22 #[.agg (dcells N ms)] w fun e w' => e = .returned (.tuple #[.agg (dcells (2 * (N : Int)) (sj (arZ N ms N (2 * N)) (2 * N) (2 * N))), .int .i64 0]) ∧ Below w.heap.size w w' := by
  have hl := Lib.hid hms
  have hcl := Lib.hid (fun w => isPS_any N ms hms hb w)
  rw [hd] at hcl
  have hpl := Lib.hid (fun w => planS_cr N ms hms h1 h4 true (by simpa using hc) w)
  have hsu := Lib.hid (fun w => surS_any N ms hms h1 h4 w)
  have hsl := Lib.hid (sj_len (arZ N ms N (2 * N)) (2 * N) (2 * N))
  generalize sj (arZ N ms N (2 * N)) (2 * N) (2 * N) = R at *
  clear hms hb hd hc
  go_enter Try.func22, Try.ntmps22
  go_wp2_with (first
    | (refine wpList_load_row rfl 28 _ rfl _ rfl 28 _ (0, 0) _ ((Own.new _ _ _).alloc _) Try.underlying28 rfl (rowP (d9 _ _ (hl.out))) ?_)
    | (go_at_call 79; ((with_reducible refine (hcl.out _).mono ?_); rintro e w1 ⟨rfl, hB1⟩; have hO1 : Own w1 w.heap.size (dcells N ms) 28 := ((Own.new _ _ _).alloc _).below hB1 (by simp <;> omega); have hR1 : Own w1 (w.heap.size + 1) zcells 35 := (Own.at _ _ _ (by simp)).below hB1 (by simp); have hBw : Below w.heap.size w w1 := (((Below.refl w.heap.size w).alloc (Nat.le_refl _) _).alloc (by simp) _).trans (hB1.mono (by simp <;> omega)); clear hB1))
    | (refine wpList_load_row rfl 28 _ rfl _ rfl 28 _ (0, 0) _ (hO2) Try.underlying28 rfl (rowP (d9 _ _ (hl.out))) ?_)
    | (refine wpList_load_row rfl 28 _ rfl _ rfl 28 _ (0, 0) _ (hO1) Try.underlying28 rfl (rowP (d9 _ _ (hl.out))) ?_)
    | (go_at_call 91; ((with_reducible refine (hpl.out _).mono ?_); rintro e w2 ⟨rfl, hB2⟩; have hO2 := hO1.below hB2 hO1.lt; have hR2 := hR1.below hB2 hR1.lt; have hB3 := hBw.trans (hB2.mono hBw.size); clear hB2))
    | (go_at_call 92; ((with_reducible refine (hsu.out _).mono ?_); rintro e w3 ⟨rfl, hB4⟩; have hR3 := hR2.below hB4 hR2.lt; have hB5 := hB3.trans (hB4.mono hB3.size); clear hB4))
    | (refine wpList_store_own rfl 35 _ _ rfl _ _ rfl rfl 35 _ (hR3) (row26 (d17 _ _ (hsl.out))) (z_eq (d17 _ _ hsl.out)) (dcells_one _ _) ?_; intro w4 hO4 hN4))
  refine bodyPost_ret (v := .tuple #[.agg (dcells (2 * (N : Int)) R), .int .i64 0]) (results_row_tmp rfl _ _ _ _ _ (0, 0) _ rfl (hO4) Try.underlying35 rfl (row26 (d17 _ _ (hsl.out))) _ rfl) rfl (⟨rfl, hB5.trans (hN4.below.mono (by omega))⟩)
set_option maxRecDepth 100000 in
set_option maxHeartbeats 4000000 in
theorem surDS_cr (N : Nat) (ms : List Int) (hms : ms.length = 8) (hb : Bytes ms) (hd : isP N ms = true) (hc : Crs (arZ N ms N (2 * N)) (2 * N)) (w : World) (h1 : 1 ≤ N) (h4 : N ≤ 4) :
    Calls Try.prog 22 #[.agg (dcells N ms)] w fun e w' => e = .returned (.tuple #[.agg zcells, .int .i64 5]) ∧ Below w.heap.size w w' := by
  have hl := Lib.hid hms
  have hcl := Lib.hid (fun w => isPS_any N ms hms hb w)
  rw [hd] at hcl
  have hpl := Lib.hid (fun w => planS_cr N ms hms h1 h4 false (by simpa using hc) w)
  clear hms hb hd hc
  go_enter Try.func22, Try.ntmps22
  go_wp2_with (first
    | (refine wpList_load_row rfl 28 _ rfl _ rfl 28 _ (0, 0) _ ((Own.new _ _ _).alloc _) Try.underlying28 rfl (rowP (d9 _ _ (hl.out))) ?_)
    | (go_at_call 79; ((with_reducible refine (hcl.out _).mono ?_); rintro e w1 ⟨rfl, hB1⟩; have hO1 : Own w1 w.heap.size (dcells N ms) 28 := ((Own.new _ _ _).alloc _).below hB1 (by simp <;> omega); have hR1 : Own w1 (w.heap.size + 1) zcells 35 := (Own.at _ _ _ (by simp)).below hB1 (by simp); have hBw : Below w.heap.size w w1 := (((Below.refl w.heap.size w).alloc (Nat.le_refl _) _).alloc (by simp) _).trans (hB1.mono (by simp <;> omega)); clear hB1))
    | (refine wpList_load_row rfl 28 _ rfl _ rfl 28 _ (0, 0) _ (hO1) Try.underlying28 rfl (rowP (d9 _ _ (hl.out))) ?_)
    | (go_at_call 91; ((with_reducible refine (hpl.out _).mono ?_); rintro e w2 ⟨rfl, hB2⟩; have hR2 := hR1.below hB2 hR1.lt; have hB3 := hBw.trans (hB2.mono hBw.size); clear hB2))
    | (refine wpList_build_of rfl 35 #[] rfl zcells ?_ ?_; (exact built26nil))
    | (refine wpList_store_own rfl 35 _ _ rfl _ _ rfl rfl 35 _ (hR2) (row26 (d17 _ _ (zlen))) (rfl) (dcells_one _ _) ?_; intro w4 hO4 hN4))
  refine bodyPost_ret (v := .tuple #[.agg (zcells), .int .i64 5]) (results_row_tmp rfl _ _ _ _ _ (0, 0) _ rfl (hO4) Try.underlying35 rfl (row26 (d17 _ _ (zlen))) _ rfl) rfl (⟨rfl, hB3.trans (hN4.below.mono (by omega))⟩)
set_option maxRecDepth 100000 in
theorem surDS_bad (n : Int) (ms : List Int) (hms : ms.length = 8) (hb : Bytes ms) (hd : isP n ms = false) (w : World) :
    Calls Try.prog 22 #[.agg (dcells n ms)] w fun e w' => e = .returned (.tuple #[.agg zcells, .int .i64 1]) ∧ Below w.heap.size w w' := by
  have hl := Lib.hid hms
  have hcl := Lib.hid (fun w => isPS_any n ms hms hb w)
  rw [hd] at hcl
  clear hms hb hd
  go_enter Try.func22, Try.ntmps22
  go_wp2_with (first
    | (refine wpList_load_row rfl 28 _ rfl _ rfl 28 _ (0, 0) _ ((Own.new _ _ _).alloc _) Try.underlying28 rfl (rowP (d9 _ _ (hl.out))) ?_)
    | (go_at_call 79; ((with_reducible refine (hcl.out _).mono ?_); rintro e w1 ⟨rfl, hB1⟩; have hR1 : Own w1 (w.heap.size + 1) zcells 35 := (Own.at _ _ _ (by simp)).below hB1 (by simp); have hBw : Below w.heap.size w w1 := (((Below.refl w.heap.size w).alloc (Nat.le_refl _) _).alloc (by simp) _).trans (hB1.mono (by simp <;> omega)); clear hB1))
    | (refine wpList_build_of rfl 35 #[] rfl zcells ?_ ?_; (exact built26nil))
    | (refine wpList_store_own rfl 35 _ _ rfl _ _ rfl rfl 35 _ (hR1) (row26 (d17 _ _ (zlen))) (rfl) (dcells_one _ _) ?_; intro w4 hO4 hN4))
  refine bodyPost_ret (v := .tuple #[.agg (zcells), .int .i64 1]) (results_row_tmp rfl _ _ _ _ _ (0, 0) _ rfl (hO4) Try.underlying35 rfl (row26 (d17 _ _ (zlen))) _ rfl) rfl (⟨rfl, hBw.trans (hN4.below.mono (by omega))⟩)
set_option maxRecDepth 100000 in
theorem surDI_bad (n : Int) (ms : List Int) (hms : ms.length = 8) (hd : isP n ms = false) (w : World) :
    Calls Try.prog 23 #[.agg (dcells n ms)] w fun e w' => e = .returned (.tuple #[.agg zcells, .int .i64 1]) ∧ Below w.heap.size w w' := by
  have hl := Lib.hid hms
  have hcl := Lib.hid (fun w => isPI_any n ms hms w)
  rw [hd] at hcl
  clear hms hd
  go_enter Try.func23, Try.ntmps23
  go_wp2_with (first
    | (refine wpList_load_row rfl 28 _ rfl _ rfl 28 _ (0, 0) _ ((Own.new _ _ _).alloc _) Try.underlying28 rfl (rowP (d9 _ _ (hl.out))) ?_)
    | (go_at_call 45; ((with_reducible refine (hcl.out _).mono ?_); rintro e w1 ⟨rfl, hB1⟩; have hR1 : Own w1 (w.heap.size + 1) zcells 35 := (Own.at _ _ _ (by simp)).below hB1 (by simp); have hBw : Below w.heap.size w w1 := (((Below.refl w.heap.size w).alloc (Nat.le_refl _) _).alloc (by simp) _).trans (hB1.mono (by simp <;> omega)); clear hB1))
    | (refine wpList_build_of rfl 35 #[] rfl zcells ?_ ?_; (exact built26nil))
    | (refine wpList_store_own rfl 35 _ _ rfl _ _ rfl rfl 35 _ (hR1) (row26 (d17 _ _ (zlen))) (rfl) (dcells_one _ _) ?_; intro w4 hO4 hN4))
  refine bodyPost_ret (v := .tuple #[.agg (zcells), .int .i64 1]) (results_row_tmp rfl _ _ _ _ _ (0, 0) _ rfl (hO4) Try.underlying35 rfl (row26 (d17 _ _ (zlen))) _ rfl) rfl (⟨rfl, hBw.trans (hN4.below.mono (by omega))⟩)
set_option maxRecDepth 100000 in
set_option maxHeartbeats 4000000 in
theorem surDI_cr (N : Nat) (ms : List Int) (hms : ms.length = 8) (hd : isP N ms = true) (hc : Crs (arZ N ms N (2 * N)) (2 * N)) (w : World) (h1 : 1 ≤ N) (h4 : N ≤ 4) :
    Calls Try.prog 23 #[.agg (dcells N ms)] w fun e w' => e = .returned (.tuple #[.agg zcells, .int .i64 5]) ∧ Below w.heap.size w w' := by
  have hl := Lib.hid hms
  have hnum := isP_nums hms hd
  have hcl := Lib.hid (fun w => isPI_any N ms hms w)
  rw [hd] at hcl
  have hsh := Lib.hid (fun w => shapeOf_nat N ms hms hnum w h1 h4)
  have hpl := Lib.hid (fun ga gp w hO => planI_cr (ga := ga) (gp := gp) (P := parN ms N) (arZ_len N ms N (2 * N)) (by omega) false (by simpa using hc) w hO)
  generalize arZ N ms N (2 * N) = a at *
  generalize parN ms N = P at *
  clear hms hd hc hnum
  go_enter Try.func23, Try.ntmps23
  go_wp2_with (first
    | (refine wpList_load_row rfl 28 _ rfl _ rfl 28 _ (0, 0) _ ((Own.new _ _ _).alloc _) Try.underlying28 rfl (rowP (d9 _ _ (hl.out))) ?_)
    | (go_at_call 45; ((with_reducible refine (hcl.out _).mono ?_); rintro e w1 ⟨rfl, hB1⟩; have hO1 : Own w1 w.heap.size (dcells N ms) 28 := ((Own.new _ _ _).alloc _).below hB1 (by simp <;> omega); have hR1 : Own w1 (w.heap.size + 1) zcells 35 := (Own.at _ _ _ (by simp)).below hB1 (by simp); have hBw : Below w.heap.size w w1 := (((Below.refl w.heap.size w).alloc (Nat.le_refl _) _).alloc (by simp) _).trans (hB1.mono (by simp <;> omega)); clear hB1))
    | (refine wpList_load_row rfl 28 _ rfl _ rfl 28 _ (0, 0) _ (hO1) Try.underlying28 rfl (rowP (d9 _ _ (hl.out))) ?_)
    | (go_at_call 84; ((with_reducible refine (hsh.out _).mono ?_); rintro e w2 ⟨ga, gp, rfl, hga, hgp, hA2, hP2, hB2⟩; have hR2 := hR1.below hB2 hR1.lt; have hB3 : Below w.heap.size w w2 := hBw.trans (hB2.mono hBw.size); clear hB2))
    | (refine wpList_store_own rfl 87 _ _ rfl _ (shc ga gp (2 * N) P) rfl rfl 87 _ (Own.new w2 _ _) (rowSh rfl) rfl (by simp [shc, Value.oneCell']) ?_; intro w3 hO3 hN3; have hR3 := (hR2.alloc _).only hN3 (Nat.ne_of_lt hR2.lt); have hA3 := (hA2.alloc _).only hN3 (Nat.ne_of_lt hA2.lt); have hB4 := (hB3.alloc hB3.size _).trans (hN3.below.mono hB3.size))
    | (refine wpList_load_row rfl 87 _ rfl _ rfl 87 _ (0, 0) _ hO3 Try.underlying87 rfl (rowSh (c := shc ga gp (2 * N) P) rfl) ?_)
    | (go_at_call 85; ((with_reducible refine (hpl.out ga gp _ hA3).mono ?_); rintro e w5 ⟨rfl, hB5⟩; have hR5 := hR3.below hB5 hR3.lt; have hB6 := hB4.trans (hB5.mono hB4.size); clear hB5))
    | (refine wpList_build_of rfl 35 #[] rfl zcells ?_ ?_; (exact built26nil))
    | (refine wpList_store_own rfl 35 _ _ rfl _ _ rfl rfl 35 _ (hR5) (row26 (d17 _ _ (zlen))) (rfl) (dcells_one _ _) ?_; intro w6 hO6 hN6))
  refine bodyPost_ret (v := .tuple #[.agg (zcells), .int .i64 5]) (results_row_tmp rfl _ _ _ _ _ (0, 0) _ rfl (hO6) Try.underlying35 rfl (row26 (d17 _ _ (zlen))) _ rfl) rfl (⟨rfl, hB6.trans (hN6.below.mono (by omega))⟩)
end Go.Proofs.Ytblbnlpbefmieaa
