/- IsBlobbed and BareDiagram: the answers and the laws. -/
import Derived.Test.YtbegolbognkefaaIbi
namespace Go.Proofs.Ytbegolbognkefaa
open Go.RowKit Go.Lib
set_option linter.unusedVariables false
set_option linter.unusedSimpArgs false
set_option maxRecDepth 100000 in
set_option maxHeartbeats 1000000 in
theorem IsBlobbed_walk (n : Int) (ms : List Int) (bs : List Bool) (hms : ms.length = 16) (hbs : bs.length = 16) (w : World) (b : Bool)
    (hS : ∀ w, Calls Try.prog 18 #[.agg (bcl n ms bs)] w fun e w' => e = .returned (.bool b) ∧ Below w.heap.size w w')
    (hI : ∀ w, Calls Try.prog 20 #[.agg (bcl n ms bs)] w fun e w' => e = .returned (.bool b) ∧ Below w.heap.size w w') :
    Calls Try.prog 4 #[.agg (bcl n ms bs)] w fun e w' => e = .returned (.bool true) ∧ Below w.heap.size w w' := by
  have hS' := Lib.hid hS
  have hI' := Lib.hid hI
  have hl := Lib.hid hms
  have hk := Lib.hid hbs
  clear hS hI hms hbs
  go_enter Try.func4, Try.ntmps4
  go_wp2_with (first
    | (refine wpList_load_row rfl 35 _ rfl _ rfl 35 _ (0, 0) _ (Own.new _ _ _) Try.underlying35 rfl (rowLB (b33 _ _ _ (hl.out) (hk.out))) ?_)
    | (go_at_call 18; ((with_reducible refine (hS'.out _).mono ?_); rintro e w2 ⟨rfl, hB2⟩))
    | (go_at_call 20; ((with_reducible refine (hI'.out _).mono ?_); rintro e w4 ⟨rfl, hB4⟩))
    | (go_at_call 19; ((with_reducible refine (toBl_any n ms bs hl.out hk.out w2).mono ?_); rintro e w3 ⟨rfl, hB3⟩))
    | (go_at_call 19; ((with_reducible refine (toBl_any n ms bs hl.out hk.out _).mono ?_); rintro e w1 ⟨rfl, hB1⟩))
    | (refine wpList_load_row rfl 35 _ rfl _ rfl 35 _ (0, 0) _ (((Own.new _ _ _).below hB1 (by simp)).below hB2 (Nat.lt_of_lt_of_le (by simp) hB1.size)) Try.underlying35 rfl (rowLB (b33 _ _ _ (hl.out) (hk.out))) ?_))
  go_ret
  have b0 : Below w.heap.size w (w.alloc (.cells (bcl n ms bs) 35)) := (Below.refl _ _).alloc (Nat.le_refl _) _
  have b1 := b0.trans (hB1.mono b0.size)
  have b2 := b1.trans (hB2.mono b1.size)
  have b3 := b2.trans (hB3.mono b2.size)
  exact ⟨rfl, b3.trans (hB4.mono b3.size)⟩
theorem isbl_law (n : Int) (ms : List Int) (bs : List Bool) (hms : ms.length = 16) (hb : Bytes ms) (hbs : bs.length = 16) (w : World) :
    Calls Try.prog 4 #[.agg (bcl n ms bs)] w fun e w' => e = .returned (.bool true) ∧ Below w.heap.size w w' :=
  IsBlobbed_walk n ms bs hms hbs w (isB n ms bs) (fun w => isBlS_any n ms bs hms hbs hb w) (fun w => isBlI_any n ms bs hms hbs hb w)
set_option maxRecDepth 100000 in
set_option maxHeartbeats 1000000 in
theorem BareDiagram_walk (n : Int) (ms : List Int) (bs : List Bool) (hms : ms.length = 16) (hbs : bs.length = 16) (w : World) (m c : Int) (rs : List Int) (hr : rs.length = 16)
    (hS : ∀ w, Calls Try.prog 30 #[.agg (bcl n ms bs)] w fun e w' => e = .returned (.tuple #[.agg (dcells m rs), .int .i64 c]) ∧ Below w.heap.size w w')
    (hI : ∀ w, Calls Try.prog 31 #[.agg (bcl n ms bs)] w fun e w' => e = .returned (.tuple #[.agg (dcells m rs), .int .i64 c]) ∧ Below w.heap.size w w') :
    Calls Try.prog 9 #[.agg (bcl n ms bs)] w fun e w' => e = .returned (.bool true) ∧ Below w.heap.size w w' := by
  have hS' := Lib.hid hS
  have hI' := Lib.hid hI
  have hl := Lib.hid hms
  have hk := Lib.hid hbs
  have hh := Lib.hid hr
  clear hS hI hms hbs hr
  go_enter Try.func9, Try.ntmps9
  go_wp2_with (first
    | (refine wpList_load_row rfl 35 _ rfl _ rfl 35 _ (0, 0) _ (Own.new w _ _) Try.underlying35 rfl (rowLB (b33 _ _ _ (hl.out) (hk.out))) ?_)
    | (go_at_call 19; ((with_reducible refine (toBl_any n ms bs hl.out hk.out w3).mono ?_); rintro e w4 ⟨rfl, hB4⟩; have b4 := b3.trans (hB4.mono b3.size)))
    | (go_at_call 19; ((with_reducible refine (toBl_any n ms bs hl.out hk.out _).mono ?_); rintro e w1 ⟨rfl, hB1⟩))
    | (go_at_call 30; ((with_reducible refine (hS'.out _).mono ?_); rintro e w2 ⟨rfl, hB2⟩; have hA2 : Own w2 w.heap.size (bcl n ms bs) 35 := ((Own.new w _ _).below hB1 (by simp)).below hB2 (Nat.lt_of_lt_of_le (by simp) hB1.size); have b2 : Below w.heap.size w w2 := (((Below.refl w.heap.size w).alloc (Nat.le_refl _) _).trans (hB1.mono (by simp))).trans (hB2.mono (Nat.le_trans (by simp) hB1.size))))
    | (go_at_call 31; ((with_reducible refine (hI'.out _).mono ?_); rintro e w5 ⟨rfl, hB5⟩; have hO5 : Own w5 w2.heap.size (dcells m rs) 28 := (hO3.below hB4 hO3.lt).below hB5 (Nat.lt_of_lt_of_le hO3.lt hB4.size); have b5 := b4.trans (hB5.mono b4.size)))
    | (refine wpList_load_row rfl 35 _ rfl _ rfl 35 _ (0, 0) _ ((hA2.alloc _).only hN3 (Nat.ne_of_lt hA2.lt)) Try.underlying35 rfl (rowLB (b33 _ _ _ (hl.out) (hk.out))) ?_)
    | (refine wpList_load_row rfl 28 _ rfl _ rfl 28 _ (0, 0) _ (hO6) Try.underlying28 rfl (row26 (d17 _ _ (hh.out))) ?_)
    | (refine wpList_load_row rfl 28 _ rfl _ rfl 28 _ (0, 0) _ ((hO5.alloc _).only hN6 (Nat.ne_of_lt hO5.lt)) Try.underlying28 rfl (row26 (d17 _ _ (hh.out))) ?_)
    | (go_at_call 32; refine (eqD_same m rs hh.out _).mono ?_; rintro e w7 ⟨rfl, hB7⟩)
    | (refine wpList_store_own rfl 28 _ _ rfl _ _ rfl rfl 28 _ (Own.new w5 _ _) (row26 (d17 _ _ (hh.out))) (z_eq (d17 _ _ hh.out)) (dcells_one _ _) ?_; intro w6 hO6 hN6)
    | ((refine wpList_store_own rfl 28 _ _ rfl _ _ rfl rfl 28 _ (Own.new w2 _ _) (row26 (d17 _ _ (hh.out))) (z_eq (d17 _ _ hh.out)) (dcells_one _ _) ?_; intro w3 hO3 hN3); have b3 : Below w.heap.size w w3 := (b2.alloc b2.size _).trans (hN3.below.mono b2.size)))
  go_ret
  have b6 : Below w.heap.size w w6 := (b5.alloc b5.size _).trans (hN6.below.mono b5.size)
  exact ⟨rfl, b6.trans (hB7.mono b6.size)⟩
set_option maxRecDepth 100000 in
theorem bareS_ok (n : Int) (ms : List Int) (bs : List Bool) (hms : ms.length = 16) (hbs : bs.length = 16) (hb : Bytes ms) (hd : isB n ms bs = true) (w : World) :
    Calls Try.prog 30 #[.agg (bcl n ms bs)] w fun e w' => e = .returned (.tuple #[.agg (dcells n ms), .int .i64 0]) ∧ Below w.heap.size w w' := by
  have hl := Lib.hid hms
  have hk := Lib.hid hbs
  have hc := Lib.hid (fun w => isBS_any n ms bs hms hbs hb w)
  rw [hd] at hc
  clear hms hbs hb hd
  go_enter Try.func30, Try.ntmps30
  go_wp2_with (first
    | (refine wpList_load_row rfl 38 _ rfl _ rfl 38 _ (0, 0) _ ((Own.new _ _ _).alloc _) Try.underlying38 rfl (rowB (b33 _ _ _ (hl.out) (hk.out))) ?_)
    | ((go_at_call 43; ((with_reducible refine (hc.out _).mono ?_); rintro e w1 ⟨rfl, hB1⟩)); have hO1 : Own w1 w.heap.size (bcl n ms bs) 38 := ((Own.new _ _ _).alloc _).below hB1 (by simp <;> omega); have hZ1 : Own w1 (w.heap.size + 1) zcells 28 := (Own.at _ _ _ (by simp)).below hB1 (by simp))
    | (refine wpList_load_part rfl 28 _ rfl _ 0 rfl (dcells _ _) _ (Own.bdia (hO1) (hl.out)) Try.underlying28 rfl (row26 (d17 _ _ (hl.out))) ?_)
    | (refine wpList_store_own rfl 28 _ _ rfl _ _ rfl rfl 28 _ (hZ1) (row26 (d17 _ _ (hl.out))) (z_eq (d17 _ _ hl.out)) (dcells_one _ _) ?_; intro w2 hO2 hN2))
  have b0 : Below w.heap.size w ((w.alloc (.cells (bcl n ms bs) 38)).alloc (.cells zcells 28)) := ((Below.refl _ _).alloc (Nat.le_refl _) _).alloc (by simp) _
  refine bodyPost_ret (v := .tuple #[.agg (dcells n ms), .int .i64 0]) (results_row_tmp rfl _ _ _ _ _ (0, 0) _ rfl (hO2) Try.underlying28 rfl (row26 (d17 _ _ (hl.out))) _ rfl) rfl (⟨rfl, (b0.trans (hB1.mono b0.size)).trans (hN2.below.mono (by omega))⟩)
set_option maxRecDepth 100000 in
theorem bareS_bad (n : Int) (ms : List Int) (bs : List Bool) (hms : ms.length = 16) (hbs : bs.length = 16) (hb : Bytes ms) (hd : isB n ms bs = false) (w : World) :
    Calls Try.prog 30 #[.agg (bcl n ms bs)] w fun e w' => e = .returned (.tuple #[.agg (dcells 0 zeros), .int .i64 1]) ∧ Below w.heap.size w w' := by
  have hl := Lib.hid hms
  have hk := Lib.hid hbs
  have hc := Lib.hid (fun w => isBS_any n ms bs hms hbs hb w)
  rw [hd] at hc
  clear hms hbs hb hd
  go_enter Try.func30, Try.ntmps30
  go_wp2_with (first
    | (refine wpList_load_row rfl 38 _ rfl _ rfl 38 _ (0, 0) _ ((Own.new _ _ _).alloc _) Try.underlying38 rfl (rowB (b33 _ _ _ (hl.out) (hk.out))) ?_)
    | ((go_at_call 43; ((with_reducible refine (hc.out _).mono ?_); rintro e w1 ⟨rfl, hB1⟩)); have hZ1 : Own w1 (w.heap.size + 1) zcells 28 := (Own.at _ _ _ (by simp)).below hB1 (by simp))
    | (refine wpList_build_of rfl 28 #[] rfl zcells ?_ ?_; (exact built26nil))
    | (refine wpList_store_own rfl 28 _ _ rfl _ _ rfl rfl 28 _ (hZ1) (row26 (d17 _ _ (zlen))) (rfl) (dcells_one _ _) ?_; intro w2 hO2 hN2))
  have b0 : Below w.heap.size w ((w.alloc (.cells (bcl n ms bs) 38)).alloc (.cells zcells 28)) := ((Below.refl _ _).alloc (Nat.le_refl _) _).alloc (by simp) _
  refine bodyPost_ret (v := .tuple #[.agg (zcells), .int .i64 1]) (results_row_tmp rfl _ _ _ _ _ (0, 0) _ rfl (hO2) Try.underlying28 rfl (row26 (d17 _ _ (zlen))) _ rfl) rfl (⟨rfl, (b0.trans (hB1.mono b0.size)).trans (hN2.below.mono (by omega))⟩)
set_option maxRecDepth 100000 in
theorem bareI_ok (n : Int) (ms : List Int) (bs : List Bool) (hms : ms.length = 16) (hbs : bs.length = 16) (hb : Bytes ms) (hd : isB n ms bs = true) (w : World) :
    Calls Try.prog 31 #[.agg (bcl n ms bs)] w fun e w' => e = .returned (.tuple #[.agg (dcells n ms), .int .i64 0]) ∧ Below w.heap.size w w' := by
  have hl := Lib.hid hms
  have hk := Lib.hid hbs
  have hc := Lib.hid (fun w => isBlI_any n ms bs hms hbs hb w)
  rw [hd] at hc
  clear hms hbs hb hd
  go_enter Try.func31, Try.ntmps31
  go_wp2_with (first
    | (refine wpList_load_row rfl 38 _ rfl _ rfl 38 _ (0, 0) _ ((Own.new _ _ _).alloc _) Try.underlying38 rfl (rowB (b33 _ _ _ (hl.out) (hk.out))) ?_)
    | ((go_at_call 20; ((with_reducible refine (hc.out _).mono ?_); rintro e w1 ⟨rfl, hB1⟩)); have hO1 : Own w1 w.heap.size (bcl n ms bs) 38 := ((Own.new _ _ _).alloc _).below hB1 (by simp <;> omega); have hZ1 : Own w1 (w.heap.size + 1) zcells 28 := (Own.at _ _ _ (by simp)).below hB1 (by simp))
    | (refine wpList_load_part rfl 28 _ rfl _ 0 rfl (dcells _ _) _ (Own.bdia (hO1) (hl.out)) Try.underlying28 rfl (row26 (d17 _ _ (hl.out))) ?_)
    | (refine wpList_store_own rfl 28 _ _ rfl _ _ rfl rfl 28 _ (hZ1) (row26 (d17 _ _ (hl.out))) (z_eq (d17 _ _ hl.out)) (dcells_one _ _) ?_; intro w2 hO2 hN2))
  have b0 : Below w.heap.size w ((w.alloc (.cells (bcl n ms bs) 38)).alloc (.cells zcells 28)) := ((Below.refl _ _).alloc (Nat.le_refl _) _).alloc (by simp) _
  refine bodyPost_ret (v := .tuple #[.agg (dcells n ms), .int .i64 0]) (results_row_tmp rfl _ _ _ _ _ (0, 0) _ rfl (hO2) Try.underlying28 rfl (row26 (d17 _ _ (hl.out))) _ rfl) rfl (⟨rfl, (b0.trans (hB1.mono b0.size)).trans (hN2.below.mono (by omega))⟩)
set_option maxRecDepth 100000 in
theorem bareI_bad (n : Int) (ms : List Int) (bs : List Bool) (hms : ms.length = 16) (hbs : bs.length = 16) (hb : Bytes ms) (hd : isB n ms bs = false) (w : World) :
    Calls Try.prog 31 #[.agg (bcl n ms bs)] w fun e w' => e = .returned (.tuple #[.agg (dcells 0 zeros), .int .i64 1]) ∧ Below w.heap.size w w' := by
  have hl := Lib.hid hms
  have hk := Lib.hid hbs
  have hc := Lib.hid (fun w => isBlI_any n ms bs hms hbs hb w)
  rw [hd] at hc
  clear hms hbs hb hd
  go_enter Try.func31, Try.ntmps31
  go_wp2_with (first
    | (refine wpList_load_row rfl 38 _ rfl _ rfl 38 _ (0, 0) _ ((Own.new _ _ _).alloc _) Try.underlying38 rfl (rowB (b33 _ _ _ (hl.out) (hk.out))) ?_)
    | ((go_at_call 20; ((with_reducible refine (hc.out _).mono ?_); rintro e w1 ⟨rfl, hB1⟩)); have hZ1 : Own w1 (w.heap.size + 1) zcells 28 := (Own.at _ _ _ (by simp)).below hB1 (by simp))
    | (refine wpList_build_of rfl 28 #[] rfl zcells ?_ ?_; (exact built26nil))
    | (refine wpList_store_own rfl 28 _ _ rfl _ _ rfl rfl 28 _ (hZ1) (row26 (d17 _ _ (zlen))) (rfl) (dcells_one _ _) ?_; intro w2 hO2 hN2))
  have b0 : Below w.heap.size w ((w.alloc (.cells (bcl n ms bs) 38)).alloc (.cells zcells 28)) := ((Below.refl _ _).alloc (Nat.le_refl _) _).alloc (by simp) _
  refine bodyPost_ret (v := .tuple #[.agg (zcells), .int .i64 1]) (results_row_tmp rfl _ _ _ _ _ (0, 0) _ rfl (hO2) Try.underlying28 rfl (row26 (d17 _ _ (zlen))) _ rfl) rfl (⟨rfl, (b0.trans (hB1.mono b0.size)).trans (hN2.below.mono (by omega))⟩)
theorem bare_law (n : Int) (ms : List Int) (bs : List Bool) (hms : ms.length = 16) (hb : Bytes ms) (hbs : bs.length = 16) (w : World) :
    Calls Try.prog 9 #[.agg (bcl n ms bs)] w fun e w' => e = .returned (.bool true) ∧ Below w.heap.size w w' := by
  cases hd : isB n ms bs with
  | true => exact BareDiagram_walk n ms bs hms hbs w n 0 ms hms (bareS_ok n ms bs hms hbs hb hd) (bareI_ok n ms bs hms hbs hb hd)
  | false => exact BareDiagram_walk n ms bs hms hbs w 0 1 zeros zlen (bareS_bad n ms bs hms hbs hb hd) (bareI_bad n ms bs hms hbs hb hd)
end Go.Proofs.Ytbegolbognkefaa
