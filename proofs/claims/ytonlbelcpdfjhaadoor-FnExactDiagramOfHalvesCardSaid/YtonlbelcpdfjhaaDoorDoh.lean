/- DiagramOfHalves, the program's and the model's, by outcome. -/
import Derived.Test.YtonlbelcpdfjhaaDoorIsH
namespace Go.Proofs.YtonlbelcpdfjhaaDoor
open Go.RowKit
set_option maxRecDepth 100000 in
set_option maxHeartbeats 1000000 in
theorem dohI_bad1 (a b : ByteArray) (w : World)
    (hA : ∀ w1, Below w.heap.size w w1 → Calls Tryd.prog 12 #[.string a] w1 fun e w2 => e = .returned (.bool false) ∧ Below w1.heap.size w1 w2) :
    Calls Tryd.prog 27 #[.string a, .string b] w fun e w' => e = .returned (.tuple #[.agg (zcells), .int .i64 1]) ∧ Below w.heap.size w w' := by
  have hA := Lib.hid hA
  go_enter Tryd.func27, Tryd.ntmps27
  go_wp2_with (first
    | (go_at_call 12; ((with_reducible refine (hA.out _ ((Below.refl _ w).alloc (Nat.le_refl _) _)).mono ?_); rintro e w1 ⟨rfl, hB0⟩; have R1 : Own w1 w.heap.size zcells 35 := (Own.new w _ _).below hB0 (by simp); have hB1 : Below w.heap.size w w1 := ((Below.refl _ w).alloc (Nat.le_refl _) _).trans (hB0.mono (by simp))))
    | (refine wpList_build_of rfl 35 #[] rfl zcells ?_ ?_; (exact built26nil))
    | (refine wpList_store_own rfl 35 _ _ rfl _ _ rfl rfl 35 _ (R1) (row26 (d17 _ _ (zlen))) (rfl) (dcells_one _ _) ?_; intro w5 hO5 hN5))
  refine bodyPost_ret (v := .tuple #[.agg (zcells), .int .i64 1]) (results_row_tmp rfl _ _ _ _ _ (0, 0) _ rfl (hO5) Tryd.underlying35 rfl (row26 (d17 _ _ (zlen))) _ rfl) rfl (⟨rfl, hB1.trans (hN5.below.mono (Nat.le_refl _))⟩)
set_option maxRecDepth 100000 in
set_option maxHeartbeats 1000000 in
theorem dohI_bad2 (a b : ByteArray) (w : World)
    (hA : ∀ w1, Below w.heap.size w w1 → Calls Tryd.prog 12 #[.string a] w1 fun e w2 => e = .returned (.bool true) ∧ Below w1.heap.size w1 w2)
    (hC : ∀ w1, Below w.heap.size w w1 → Calls Tryd.prog 12 #[.string b] w1 fun e w2 => e = .returned (.bool false) ∧ Below w1.heap.size w1 w2) :
    Calls Tryd.prog 27 #[.string a, .string b] w fun e w' => e = .returned (.tuple #[.agg (zcells), .int .i64 1]) ∧ Below w.heap.size w w' := by
  have hA := Lib.hid hA
  have hC := Lib.hid hC
  go_enter Tryd.func27, Tryd.ntmps27
  go_wp2_with (first
    | (go_at_call 12; ((with_reducible refine (hC.out _ hB1).mono ?_); rintro e w2 ⟨rfl, hB2⟩; have R2 := R1.below hB2 R1.lt; have hBy : Below w.heap.size w w2 := hB1.trans (hB2.mono hB1.size)))
    | (go_at_call 12; ((with_reducible refine (hA.out _ ((Below.refl _ w).alloc (Nat.le_refl _) _)).mono ?_); rintro e w1 ⟨rfl, hB0⟩; have R1 : Own w1 w.heap.size zcells 35 := (Own.new w _ _).below hB0 (by simp); have hB1 : Below w.heap.size w w1 := ((Below.refl _ w).alloc (Nat.le_refl _) _).trans (hB0.mono (by simp))))
    | (refine wpList_build_of rfl 35 #[] rfl zcells ?_ ?_; (exact built26nil))
    | (refine wpList_store_own rfl 35 _ _ rfl _ _ rfl rfl 35 _ (R2) (row26 (d17 _ _ (zlen))) (rfl) (dcells_one _ _) ?_; intro w5 hO5 hN5))
  refine bodyPost_ret (v := .tuple #[.agg (zcells), .int .i64 1]) (results_row_tmp rfl _ _ _ _ _ (0, 0) _ rfl (hO5) Tryd.underlying35 rfl (row26 (d17 _ _ (zlen))) _ rfl) rfl (⟨rfl, hBy.trans (hN5.below.mono (Nat.le_refl _))⟩)
set_option maxRecDepth 100000 in
set_option maxHeartbeats 1000000 in
theorem dohI_size (a b : ByteArray) (w : World)
    (hA : ∀ w1, Below w.heap.size w w1 → Calls Tryd.prog 12 #[.string a] w1 fun e w2 => e = .returned (.bool true) ∧ Below w1.heap.size w1 w2)
    (hC : ∀ w1, Below w.heap.size w w1 → Calls Tryd.prog 12 #[.string b] w1 fun e w2 => e = .returned (.bool true) ∧ Below w1.heap.size w1 w2)
    (hne : (a.size : Int) ≠ (b.size : Int)) :
    Calls Tryd.prog 27 #[.string a, .string b] w fun e w' => e = .returned (.tuple #[.agg (zcells), .int .i64 2]) ∧ Below w.heap.size w w' := by
  have hA := Lib.hid hA
  have hC := Lib.hid hC
  go_enter Tryd.func27, Tryd.ntmps27
  go_wp2_with (first
    | (go_at_call 12; ((with_reducible refine (hC.out _ hB1).mono ?_); rintro e w2 ⟨rfl, hB2⟩; have R2 := R1.below hB2 R1.lt; have hBy : Below w.heap.size w w2 := hB1.trans (hB2.mono hB1.size)))
    | (go_at_call 12; ((with_reducible refine (hA.out _ ((Below.refl _ w).alloc (Nat.le_refl _) _)).mono ?_); rintro e w1 ⟨rfl, hB0⟩; have R1 : Own w1 w.heap.size zcells 35 := (Own.new w _ _).below hB0 (by simp); have hB1 : Below w.heap.size w w1 := ((Below.refl _ w).alloc (Nat.le_refl _) _).trans (hB0.mono (by simp))))
    | (refine wpList_build_of rfl 35 #[] rfl zcells ?_ ?_; (exact built26nil))
    | (refine wpList_store_own rfl 35 _ _ rfl _ _ rfl rfl 35 _ (R2) (row26 (d17 _ _ (zlen))) (rfl) (dcells_one _ _) ?_; intro w5 hO5 hN5))
  refine bodyPost_ret (v := .tuple #[.agg (zcells), .int .i64 2]) (results_row_tmp rfl _ _ _ _ _ (0, 0) _ rfl (hO5) Tryd.underlying35 rfl (row26 (d17 _ _ (zlen))) _ rfl) rfl (⟨rfl, hBy.trans (hN5.below.mono (Nat.le_refl _))⟩)
set_option maxRecDepth 100000 in
set_option maxHeartbeats 1000000 in
theorem dohI_cnt (a b : ByteArray) (w : World)
    (hA : ∀ w1, Below w.heap.size w w1 → Calls Tryd.prog 12 #[.string a] w1 fun e w2 => e = .returned (.bool true) ∧ Below w1.heap.size w1 w2)
    (hC : ∀ w1, Below w.heap.size w w1 → Calls Tryd.prog 12 #[.string b] w1 fun e w2 => e = .returned (.bool true) ∧ Below w1.heap.size w1 w2)
    (hne : (a.size : Int) = (b.size : Int)) (ca cb : Int)
    (hca : ∀ w1, Calls Tryd.prog 76 #[.string a] w1 fun e w2 => e = .returned (.int .i64 ca) ∧ w2 = w1)
    (hcb : ∀ w1, Calls Tryd.prog 76 #[.string b] w1 fun e w2 => e = .returned (.int .i64 cb) ∧ w2 = w1) (hcc : ca ≠ cb) :
    Calls Tryd.prog 27 #[.string a, .string b] w fun e w' => e = .returned (.tuple #[.agg (zcells), .int .i64 2]) ∧ Below w.heap.size w w' := by
  have hA := Lib.hid hA
  have hC := Lib.hid hC
  have hca := Lib.hid hca
  have hcb := Lib.hid hcb
  go_enter Tryd.func27, Tryd.ntmps27
  go_wp2_with (first
    | (go_at_call 12; ((with_reducible refine (hC.out _ hB1).mono ?_); rintro e w2 ⟨rfl, hB2⟩; have R2 := R1.below hB2 R1.lt; have hBy : Below w.heap.size w w2 := hB1.trans (hB2.mono hB1.size)))
    | (go_at_call 12; ((with_reducible refine (hA.out _ ((Below.refl _ w).alloc (Nat.le_refl _) _)).mono ?_); rintro e w1 ⟨rfl, hB0⟩; have R1 : Own w1 w.heap.size zcells 35 := (Own.new w _ _).below hB0 (by simp); have hB1 : Below w.heap.size w w1 := ((Below.refl _ w).alloc (Nat.le_refl _) _).trans (hB0.mono (by simp))))
    | (go_at_call 76; ((with_reducible refine (hcb.out _).mono ?_); rintro e w3 ⟨rfl, rfl⟩))
    | (go_at_call 76; ((with_reducible refine (hca.out _).mono ?_); rintro e w3 ⟨rfl, rfl⟩))
    | (refine wpList_build_of rfl 35 #[] rfl zcells ?_ ?_; (exact built26nil))
    | (refine wpList_store_own rfl 35 _ _ rfl _ _ rfl rfl 35 _ (R2) (row26 (d17 _ _ (zlen))) (rfl) (dcells_one _ _) ?_; intro w5 hO5 hN5))
  refine bodyPost_ret (v := .tuple #[.agg (zcells), .int .i64 2]) (results_row_tmp rfl _ _ _ _ _ (0, 0) _ rfl (hO5) Tryd.underlying35 rfl (row26 (d17 _ _ (zlen))) _ rfl) rfl (⟨rfl, hBy.trans (hN5.below.mono (Nat.le_refl _))⟩)
set_option maxRecDepth 100000 in
set_option maxHeartbeats 1000000 in
theorem dohI_ok (a b : ByteArray) (w : World)
    (hA : ∀ w1, Below w.heap.size w w1 → Calls Tryd.prog 12 #[.string a] w1 fun e w2 => e = .returned (.bool true) ∧ Below w1.heap.size w1 w2)
    (hC : ∀ w1, Below w.heap.size w w1 → Calls Tryd.prog 12 #[.string b] w1 fun e w2 => e = .returned (.bool true) ∧ Below w1.heap.size w1 w2)
    (hne : (a.size : Int) = (b.size : Int)) (ca cb : Int)
    (hca : ∀ w1, Calls Tryd.prog 76 #[.string a] w1 fun e w2 => e = .returned (.int .i64 ca) ∧ w2 = w1)
    (hcb : ∀ w1, Calls Tryd.prog 76 #[.string b] w1 fun e w2 => e = .returned (.int .i64 cb) ∧ w2 = w1) (hcc : ca = cb) (n : Int) (ms : List Int) (hl : ms.length = 16)
    (hH : ∀ w1, Below w.heap.size w w1 → Calls Tryd.prog 77 #[.string a, .string b] w1 fun e w2 => e = .returned (.agg (dcells n ms)) ∧ Below w1.heap.size w1 w2) :
    Calls Tryd.prog 27 #[.string a, .string b] w fun e w' => e = .returned (.tuple #[.agg (dcells n ms), .int .i64 0]) ∧ Below w.heap.size w w' := by
  have hA := Lib.hid hA
  have hC := Lib.hid hC
  have hca := Lib.hid hca
  have hcb := Lib.hid hcb
  have hH := Lib.hid hH
  have hl := Lib.hid hl
  subst hcc
  go_enter Tryd.func27, Tryd.ntmps27
  go_wp2_with (first
    | (go_at_call 12; ((with_reducible refine (hC.out _ hB1).mono ?_); rintro e w2 ⟨rfl, hB2⟩; have R2 := R1.below hB2 R1.lt; have hBy : Below w.heap.size w w2 := hB1.trans (hB2.mono hB1.size)))
    | (go_at_call 12; ((with_reducible refine (hA.out _ ((Below.refl _ w).alloc (Nat.le_refl _) _)).mono ?_); rintro e w1 ⟨rfl, hB0⟩; have R1 : Own w1 w.heap.size zcells 35 := (Own.new w _ _).below hB0 (by simp); have hB1 : Below w.heap.size w w1 := ((Below.refl _ w).alloc (Nat.le_refl _) _).trans (hB0.mono (by simp))))
    | (go_at_call 76; ((with_reducible refine (hcb.out _).mono ?_); rintro e w3 ⟨rfl, rfl⟩))
    | (go_at_call 76; ((with_reducible refine (hca.out _).mono ?_); rintro e w3 ⟨rfl, rfl⟩))
    | (go_at_call 77; ((with_reducible refine (hH.out _ hBy).mono ?_); rintro e w4 ⟨rfl, hB4⟩; have R4 := R2.below hB4 R2.lt; have hBz : Below w.heap.size w w4 := hBy.trans (hB4.mono hBy.size)))
    | (refine wpList_store_own rfl 35 _ _ rfl _ _ rfl rfl 35 _ (R4) (row26 (d17 _ _ (hl.out))) (z_eq (d17 _ _ hl.out)) (dcells_one _ _) ?_; intro w5 hO5 hN5))
  refine bodyPost_ret (v := .tuple #[.agg (dcells n ms), .int .i64 0]) (results_row_tmp rfl _ _ _ _ _ (0, 0) _ rfl (hO5) Tryd.underlying35 rfl (row26 (d17 _ _ (hl.out))) _ rfl) rfl (⟨rfl, hBz.trans (hN5.below.mono (Nat.le_refl _))⟩)
set_option maxRecDepth 100000 in
set_option maxHeartbeats 1000000 in
theorem dohS_bad1 (a b : ByteArray) (w : World)
    (hA : ∀ w1, Below w.heap.size w w1 → Calls Tryd.prog 61 #[.string a] w1 fun e w2 => e = .returned (.bool false) ∧ Below w1.heap.size w1 w2) :
    Calls Tryd.prog 28 #[.string a, .string b] w fun e w' => e = .returned (.tuple #[.agg (zcells), .int .i64 1]) ∧ Below w.heap.size w w' := by
  have hA := Lib.hid hA
  go_enter Tryd.func28, Tryd.ntmps28
  go_wp2_with (first
    | (go_at_call 61; ((with_reducible refine (hA.out _ ((Below.refl _ w).alloc (Nat.le_refl _) _)).mono ?_); rintro e w1 ⟨rfl, hB0⟩; have R1 : Own w1 w.heap.size zcells 35 := (Own.new w _ _).below hB0 (by simp); have hB1 : Below w.heap.size w w1 := ((Below.refl _ w).alloc (Nat.le_refl _) _).trans (hB0.mono (by simp))))
    | (refine wpList_build_of rfl 35 #[] rfl zcells ?_ ?_; (exact built26nil))
    | (refine wpList_store_own rfl 35 _ _ rfl _ _ rfl rfl 35 _ (R1) (row26 (d17 _ _ (zlen))) (rfl) (dcells_one _ _) ?_; intro w5 hO5 hN5))
  refine bodyPost_ret (v := .tuple #[.agg (zcells), .int .i64 1]) (results_row_tmp rfl _ _ _ _ _ (0, 0) _ rfl (hO5) Tryd.underlying35 rfl (row26 (d17 _ _ (zlen))) _ rfl) rfl (⟨rfl, hB1.trans (hN5.below.mono (Nat.le_refl _))⟩)
set_option maxRecDepth 100000 in
set_option maxHeartbeats 1000000 in
theorem dohS_bad2 (a b : ByteArray) (w : World)
    (hA : ∀ w1, Below w.heap.size w w1 → Calls Tryd.prog 61 #[.string a] w1 fun e w2 => e = .returned (.bool true) ∧ Below w1.heap.size w1 w2)
    (hC : ∀ w1, Below w.heap.size w w1 → Calls Tryd.prog 61 #[.string b] w1 fun e w2 => e = .returned (.bool false) ∧ Below w1.heap.size w1 w2) :
    Calls Tryd.prog 28 #[.string a, .string b] w fun e w' => e = .returned (.tuple #[.agg (zcells), .int .i64 1]) ∧ Below w.heap.size w w' := by
  have hA := Lib.hid hA
  have hC := Lib.hid hC
  go_enter Tryd.func28, Tryd.ntmps28
  go_wp2_with (first
    | (go_at_call 61; ((with_reducible refine (hC.out _ hB1).mono ?_); rintro e w2 ⟨rfl, hB2⟩; have R2 := R1.below hB2 R1.lt; have hBy : Below w.heap.size w w2 := hB1.trans (hB2.mono hB1.size)))
    | (go_at_call 61; ((with_reducible refine (hA.out _ ((Below.refl _ w).alloc (Nat.le_refl _) _)).mono ?_); rintro e w1 ⟨rfl, hB0⟩; have R1 : Own w1 w.heap.size zcells 35 := (Own.new w _ _).below hB0 (by simp); have hB1 : Below w.heap.size w w1 := ((Below.refl _ w).alloc (Nat.le_refl _) _).trans (hB0.mono (by simp))))
    | (refine wpList_build_of rfl 35 #[] rfl zcells ?_ ?_; (exact built26nil))
    | (refine wpList_store_own rfl 35 _ _ rfl _ _ rfl rfl 35 _ (R2) (row26 (d17 _ _ (zlen))) (rfl) (dcells_one _ _) ?_; intro w5 hO5 hN5))
  refine bodyPost_ret (v := .tuple #[.agg (zcells), .int .i64 1]) (results_row_tmp rfl _ _ _ _ _ (0, 0) _ rfl (hO5) Tryd.underlying35 rfl (row26 (d17 _ _ (zlen))) _ rfl) rfl (⟨rfl, hBy.trans (hN5.below.mono (Nat.le_refl _))⟩)
set_option maxRecDepth 100000 in
set_option maxHeartbeats 1000000 in
theorem dohS_size (a b : ByteArray) (w : World)
    (hA : ∀ w1, Below w.heap.size w w1 → Calls Tryd.prog 61 #[.string a] w1 fun e w2 => e = .returned (.bool true) ∧ Below w1.heap.size w1 w2)
    (hC : ∀ w1, Below w.heap.size w w1 → Calls Tryd.prog 61 #[.string b] w1 fun e w2 => e = .returned (.bool true) ∧ Below w1.heap.size w1 w2)
    (hne : (a.size : Int) ≠ (b.size : Int)) :
    Calls Tryd.prog 28 #[.string a, .string b] w fun e w' => e = .returned (.tuple #[.agg (zcells), .int .i64 2]) ∧ Below w.heap.size w w' := by
  have hA := Lib.hid hA
  have hC := Lib.hid hC
  go_enter Tryd.func28, Tryd.ntmps28
  go_wp2_with (first
    | (go_at_call 61; ((with_reducible refine (hC.out _ hB1).mono ?_); rintro e w2 ⟨rfl, hB2⟩; have R2 := R1.below hB2 R1.lt; have hBy : Below w.heap.size w w2 := hB1.trans (hB2.mono hB1.size)))
    | (go_at_call 61; ((with_reducible refine (hA.out _ ((Below.refl _ w).alloc (Nat.le_refl _) _)).mono ?_); rintro e w1 ⟨rfl, hB0⟩; have R1 : Own w1 w.heap.size zcells 35 := (Own.new w _ _).below hB0 (by simp); have hB1 : Below w.heap.size w w1 := ((Below.refl _ w).alloc (Nat.le_refl _) _).trans (hB0.mono (by simp))))
    | (refine wpList_build_of rfl 35 #[] rfl zcells ?_ ?_; (exact built26nil))
    | (refine wpList_store_own rfl 35 _ _ rfl _ _ rfl rfl 35 _ (R2) (row26 (d17 _ _ (zlen))) (rfl) (dcells_one _ _) ?_; intro w5 hO5 hN5))
  refine bodyPost_ret (v := .tuple #[.agg (zcells), .int .i64 2]) (results_row_tmp rfl _ _ _ _ _ (0, 0) _ rfl (hO5) Tryd.underlying35 rfl (row26 (d17 _ _ (zlen))) _ rfl) rfl (⟨rfl, hBy.trans (hN5.below.mono (Nat.le_refl _))⟩)
set_option maxRecDepth 100000 in
set_option maxHeartbeats 1000000 in
theorem dohS_cnt (a b : ByteArray) (w : World)
    (hA : ∀ w1, Below w.heap.size w w1 → Calls Tryd.prog 61 #[.string a] w1 fun e w2 => e = .returned (.bool true) ∧ Below w1.heap.size w1 w2)
    (hC : ∀ w1, Below w.heap.size w w1 → Calls Tryd.prog 61 #[.string b] w1 fun e w2 => e = .returned (.bool true) ∧ Below w1.heap.size w1 w2)
    (hne : (a.size : Int) = (b.size : Int)) (ca cb : Int)
    (hca : ∀ w1, Calls Tryd.prog 78 #[.string a] w1 fun e w2 => e = .returned (.int .i64 ca) ∧ w2 = w1)
    (hcb : ∀ w1, Calls Tryd.prog 78 #[.string b] w1 fun e w2 => e = .returned (.int .i64 cb) ∧ w2 = w1) (hcc : ca ≠ cb) :
    Calls Tryd.prog 28 #[.string a, .string b] w fun e w' => e = .returned (.tuple #[.agg (zcells), .int .i64 2]) ∧ Below w.heap.size w w' := by
  have hA := Lib.hid hA
  have hC := Lib.hid hC
  have hca := Lib.hid hca
  have hcb := Lib.hid hcb
  go_enter Tryd.func28, Tryd.ntmps28
  go_wp2_with (first
    | (go_at_call 61; ((with_reducible refine (hC.out _ hB1).mono ?_); rintro e w2 ⟨rfl, hB2⟩; have R2 := R1.below hB2 R1.lt; have hBy : Below w.heap.size w w2 := hB1.trans (hB2.mono hB1.size)))
    | (go_at_call 61; ((with_reducible refine (hA.out _ ((Below.refl _ w).alloc (Nat.le_refl _) _)).mono ?_); rintro e w1 ⟨rfl, hB0⟩; have R1 : Own w1 w.heap.size zcells 35 := (Own.new w _ _).below hB0 (by simp); have hB1 : Below w.heap.size w w1 := ((Below.refl _ w).alloc (Nat.le_refl _) _).trans (hB0.mono (by simp))))
    | (go_at_call 78; ((with_reducible refine (hcb.out _).mono ?_); rintro e w3 ⟨rfl, rfl⟩))
    | (go_at_call 78; ((with_reducible refine (hca.out _).mono ?_); rintro e w3 ⟨rfl, rfl⟩))
    | (refine wpList_build_of rfl 35 #[] rfl zcells ?_ ?_; (exact built26nil))
    | (refine wpList_store_own rfl 35 _ _ rfl _ _ rfl rfl 35 _ (R2) (row26 (d17 _ _ (zlen))) (rfl) (dcells_one _ _) ?_; intro w5 hO5 hN5))
  refine bodyPost_ret (v := .tuple #[.agg (zcells), .int .i64 2]) (results_row_tmp rfl _ _ _ _ _ (0, 0) _ rfl (hO5) Tryd.underlying35 rfl (row26 (d17 _ _ (zlen))) _ rfl) rfl (⟨rfl, hBy.trans (hN5.below.mono (Nat.le_refl _))⟩)
set_option maxRecDepth 100000 in
set_option maxHeartbeats 1000000 in
theorem dohS_ok (a b : ByteArray) (w : World)
    (hA : ∀ w1, Below w.heap.size w w1 → Calls Tryd.prog 61 #[.string a] w1 fun e w2 => e = .returned (.bool true) ∧ Below w1.heap.size w1 w2)
    (hC : ∀ w1, Below w.heap.size w w1 → Calls Tryd.prog 61 #[.string b] w1 fun e w2 => e = .returned (.bool true) ∧ Below w1.heap.size w1 w2)
    (hne : (a.size : Int) = (b.size : Int)) (ca cb : Int)
    (hca : ∀ w1, Calls Tryd.prog 78 #[.string a] w1 fun e w2 => e = .returned (.int .i64 ca) ∧ w2 = w1)
    (hcb : ∀ w1, Calls Tryd.prog 78 #[.string b] w1 fun e w2 => e = .returned (.int .i64 cb) ∧ w2 = w1) (hcc : ca = cb) (n : Int) (ms : List Int) (hl : ms.length = 16)
    (hH : ∀ w1, Below w.heap.size w w1 → Calls Tryd.prog 79 #[.string a, .string b] w1 fun e w2 => e = .returned (.agg (dcells n ms)) ∧ Below w1.heap.size w1 w2) :
    Calls Tryd.prog 28 #[.string a, .string b] w fun e w' => e = .returned (.tuple #[.agg (dcells n ms), .int .i64 0]) ∧ Below w.heap.size w w' := by
  have hA := Lib.hid hA
  have hC := Lib.hid hC
  have hca := Lib.hid hca
  have hcb := Lib.hid hcb
  have hH := Lib.hid hH
  have hl := Lib.hid hl
  subst hcc
  go_enter Tryd.func28, Tryd.ntmps28
  go_wp2_with (first
    | (go_at_call 61; ((with_reducible refine (hC.out _ hB1).mono ?_); rintro e w2 ⟨rfl, hB2⟩; have R2 := R1.below hB2 R1.lt; have hBy : Below w.heap.size w w2 := hB1.trans (hB2.mono hB1.size)))
    | (go_at_call 61; ((with_reducible refine (hA.out _ ((Below.refl _ w).alloc (Nat.le_refl _) _)).mono ?_); rintro e w1 ⟨rfl, hB0⟩; have R1 : Own w1 w.heap.size zcells 35 := (Own.new w _ _).below hB0 (by simp); have hB1 : Below w.heap.size w w1 := ((Below.refl _ w).alloc (Nat.le_refl _) _).trans (hB0.mono (by simp))))
    | (go_at_call 78; ((with_reducible refine (hcb.out _).mono ?_); rintro e w3 ⟨rfl, rfl⟩))
    | (go_at_call 78; ((with_reducible refine (hca.out _).mono ?_); rintro e w3 ⟨rfl, rfl⟩))
    | (go_at_call 79; ((with_reducible refine (hH.out _ hBy).mono ?_); rintro e w4 ⟨rfl, hB4⟩; have R4 := R2.below hB4 R2.lt; have hBz : Below w.heap.size w w4 := hBy.trans (hB4.mono hBy.size)))
    | (refine wpList_store_own rfl 35 _ _ rfl _ _ rfl rfl 35 _ (R4) (row26 (d17 _ _ (hl.out))) (z_eq (d17 _ _ hl.out)) (dcells_one _ _) ?_; intro w5 hO5 hN5))
  refine bodyPost_ret (v := .tuple #[.agg (dcells n ms), .int .i64 0]) (results_row_tmp rfl _ _ _ _ _ (0, 0) _ rfl (hO5) Tryd.underlying35 rfl (row26 (d17 _ _ (hl.out))) _ rfl) rfl (⟨rfl, hBz.trans (hN5.below.mono (Nat.le_refl _))⟩)
end Go.Proofs.YtonlbelcpdfjhaaDoor
