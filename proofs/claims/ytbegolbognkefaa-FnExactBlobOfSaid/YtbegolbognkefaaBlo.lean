/- BlobOf: the blob of a size, and the law. -/
import Derived.Test.YtbegolbognkefaaBlc
import Derived.Test.YtbegolbognkefaaKin
import Derived.Test.YtbegolbognkefaaSpecB
import Derived.Test.YtbegolbognkefaaImplB
namespace Go.Proofs.Ytbegolbognkefaa
open Go.RowKit Go.Lib
set_option linter.unusedVariables false
set_option linter.unusedSimpArgs false
theorem one_mate (n : Int) (h1 : 1 ≤ n) (h8 : n ≤ 8) : mate (oneL n n.toNat) 0 = n := by
  have h : n = 1 ∨ n = 2 ∨ n = 3 ∨ n = 4 ∨ n = 5 ∨ n = 6 ∨ n = 7 ∨ n = 8 := by omega
  rcases h with rfl | rfl | rfl | rfl | rfl | rfl | rfl | rfl <;> decide
set_option maxRecDepth 100000 in
set_option maxHeartbeats 1000000 in
theorem unitB_any (n : Int) (h1 : 1 ≤ n) (h8 : n ≤ 8) (w : World) :
    Calls Try.prog 72 #[.int .i64 n] w fun e w' => e = .returned (.agg (bcl n (oneL n n.toNat) zbs)) ∧ Below w.heap.size w w' := by
  have hl := Lib.hid (oneL_len n n.toNat)
  have hu := Lib.hid (fun w => unitI_ok n w h1 h8)
  obtain ⟨M, hM⟩ : ∃ M, oneL n n.toNat = M := ⟨_, rfl⟩
  rw [hM] at hl hu ⊢
  clear hM
  go_enter Try.func72, Try.ntmps72
  go_wp2_with (first
    | ((go_at_call 84; ((with_reducible refine (hu.out _).mono ?_); rintro e w1 ⟨rfl, hB1⟩)); have hZ1 : Own w1 w.heap.size zbl 38 := (Own.new _ _ _).below hB1 (by simp); have b1 := ((Below.refl w.heap.size w).alloc (Nat.le_refl _) (.cells zbl 38)).trans (hB1.mono (by simp)))
    | (refine wpList_store_own rfl 28 _ _ rfl _ _ rfl rfl 28 _ (Own.new w1 _ _) (row26 (d17 _ _ (hl.out))) (z_eq (d17 _ _ hl.out)) (dcells_one _ _) ?_; intro w2 hO2 hN2)
    | (refine wpList_load_row rfl 28 _ rfl _ rfl 28 _ (0, 0) _ (hO2) Try.underlying28 rfl (row26 (d17 _ _ (hl.out))) ?_)
    | (refine wpList_build_of rfl 38 #[(0, .tmp 10)] rfl (bcl n M zbs) ?_ ?_; (exact builtB1 _ _ hl.out))
    | (refine wpList_store_own rfl 38 _ _ rfl _ _ rfl rfl 38 _ ((hZ1.alloc _).only hN2 (Nat.ne_of_lt hZ1.lt)) (rowB (b33 _ _ _ (hl.out) (zbsl))) (zb _ _ _ hl.out zbsl) (bcl_one _ _ _) ?_; intro w3 hO3 hN3))
  refine bodyPost_ret (v := .agg (bcl n M zbs)) (results_cell_row rfl _ _ _ _ _ (0, 0) _ rfl (hO3) Try.underlying38 rfl (rowB (b33 _ _ _ (hl.out) (zbsl)))) rfl (⟨rfl, ((b1.alloc b1.size _).trans (hN2.below.mono b1.size)).trans (hN3.below.mono (Nat.le_refl _))⟩)
set_option maxRecDepth 100000 in
set_option maxHeartbeats 1000000 in
theorem blobN_any (n : Int) (h1 : 1 ≤ n) (h8 : n ≤ 8) (w : World) :
    Calls Try.prog 53 #[.int .i64 n, .int .i64 (-1)] w fun e w' => e = .returned (.agg (bcl n (oneL n n.toNat) (wbl zbs 0 n))) ∧ Below w.heap.size w w' := by
  have hl := Lib.hid (oneL_len n n.toNat)
  have hu := Lib.hid (fun w => unitB_any n h1 h8 w)
  have hw := Lib.hid (fun w => withB_any n (oneL n n.toNat) zbs (oneL_len n n.toNat) zbsl 0 n (by omega) (by omega) (one_mate n h1 h8) (by omega) (by omega) w)
  have hq := Lib.hid (show (wbl zbs 0 n).length = 16 by rw [wbl_len]; rfl)
  obtain ⟨M, hM⟩ : ∃ M, oneL n n.toNat = M := ⟨_, rfl⟩
  rw [hM] at hl hu hw ⊢
  obtain ⟨cs, hcs⟩ : ∃ cs, wbl zbs 0 n = cs := ⟨_, rfl⟩
  rw [hcs] at hq hw ⊢
  clear hM hcs
  go_enter Try.func53, Try.ntmps53
  go_wp2_with (first
    | ((go_at_call 72; ((with_reducible refine (hu.out _).mono ?_); rintro e w1 ⟨rfl, hB1⟩)); have hZ1 : Own w1 w.heap.size zbl 38 := (Own.new _ _ _).below hB1 (by simp); have b1 := ((Below.refl w.heap.size w).alloc (Nat.le_refl _) (.cells zbl 38)).trans (hB1.mono (by simp)))
    | ((go_at_call 67; ((with_reducible refine (hw.out _).mono ?_); rintro e w2 ⟨rfl, hB2⟩)); have hZ2 := hZ1.below hB2 hZ1.lt; have b2 := b1.trans (hB2.mono b1.size))
    | (refine wpList_store_own rfl 38 _ _ rfl _ _ rfl rfl 38 _ (hZ2) (rowB (b33 _ _ _ (hl.out) (hq.out))) (zb _ _ _ hl.out hq.out) (bcl_one _ _ _) ?_; intro w3 hO3 hN3))
  refine bodyPost_ret (v := .agg (bcl n M cs)) (results_cell_row rfl _ _ _ _ _ (0, 0) _ rfl (hO3) Try.underlying38 rfl (rowB (b33 _ _ _ (hl.out) (hq.out)))) rfl (⟨rfl, b2.trans (hN3.below.mono (Nat.le_refl _))⟩)
set_option maxRecDepth 100000 in
set_option maxHeartbeats 1000000 in
theorem blobI_ok (n : Int) (h1 : 1 ≤ n) (h8 : n ≤ 8) (w : World) :
    Calls Try.prog 27 #[.int .i64 n] w fun e w' => e = .returned (.tuple #[.agg (bcl n (oneL n n.toNat) (wbl zbs 0 n)), .int .i64 0]) ∧ Below w.heap.size w w' := by
  have hl := Lib.hid (oneL_len n n.toNat)
  have hu := Lib.hid (fun w => blobN_any n h1 h8 w)
  have hq := Lib.hid (show (wbl zbs 0 n).length = 16 by rw [wbl_len]; rfl)
  obtain ⟨M, hM⟩ : ∃ M, oneL n n.toNat = M := ⟨_, rfl⟩
  rw [hM] at hl hu ⊢
  obtain ⟨cs, hcs⟩ : ∃ cs, wbl zbs 0 n = cs := ⟨_, rfl⟩
  rw [hcs] at hq hu ⊢
  clear hM hcs
  go_enter Try.func27, Try.ntmps27
  go_wp2_with (first
    | (go_at_call 52; ((with_reducible refine (isSize_t _ _ (by omega) (by omega)).mono ?_); rintro e w0 ⟨rfl, rfl⟩))
    | ((go_at_call 53; ((with_reducible refine (hu.out _).mono ?_); rintro e w1 ⟨rfl, hB1⟩)); have hZ1 : Own w1 w.heap.size zbl 38 := (Own.new _ _ _).below hB1 (by simp); have b1 := ((Below.refl w.heap.size w).alloc (Nat.le_refl _) (.cells zbl 38)).trans (hB1.mono (by simp)))
    | (refine wpList_store_own rfl 38 _ _ rfl _ _ rfl rfl 38 _ (hZ1) (rowB (b33 _ _ _ (hl.out) (hq.out))) (zb _ _ _ hl.out hq.out) (bcl_one _ _ _) ?_; intro w3 hO3 hN3))
  refine bodyPost_ret (v := .tuple #[.agg (bcl n M cs), .int .i64 0]) (results_row_tmp rfl _ _ _ _ _ (0, 0) _ rfl (hO3) Try.underlying38 rfl (rowB (b33 _ _ _ (hl.out) (hq.out))) _ rfl) rfl (⟨rfl, b1.trans (hN3.below.mono (Nat.le_refl _))⟩)
set_option maxRecDepth 100000 in
theorem blobI_bad (n : Int) (h : n < 1 ∨ 8 < n) (w : World) :
    Calls Try.prog 27 #[.int .i64 n] w fun e w' => e = .returned (.tuple #[.agg (bcl 0 zeros zbs), .int .i64 2]) ∧ Below w.heap.size w w' := by
  have hh := Lib.hid h
  clear h
  go_enter Try.func27, Try.ntmps27
  go_wp2_with (first
    | (go_at_call 52; ((with_reducible refine (isSize_f _ _ hh.out).mono ?_); rintro e w0 ⟨rfl, rfl⟩))
    | (refine wpList_build_of rfl 38 #[] rfl zbl ?_ ?_; (exact builtB0))
    | (refine wpList_store_own rfl 38 _ _ rfl _ _ rfl rfl 38 _ (Own.new w _ _) (rowB (b33 _ _ _ (zlen) (zbsl))) (rfl) (bcl_one _ _ _) ?_; intro w3 hO3 hN3))
  refine bodyPost_ret (v := .tuple #[.agg (zbl), .int .i64 2]) (results_row_tmp rfl _ _ _ _ _ (0, 0) _ rfl (hO3) Try.underlying38 rfl (rowB (b33 _ _ _ (zlen) (zbsl))) _ rfl) rfl (⟨rfl, ((Below.refl _ _).alloc (Nat.le_refl _) _).trans (hN3.below.mono (Nat.le_refl _))⟩)
set_option maxRecDepth 100000 in
set_option maxHeartbeats 1000000 in
theorem blobW_any (n : Int) (h1 : 1 ≤ n) (h8 : n ≤ 8) (w : World) :
    Calls Try.prog 51 #[.int .i64 n] w fun e w' => e = .returned (.agg (bcl n (oneL n n.toNat) (wbl zbs 0 n))) ∧ Below w.heap.size w w' := by
  have hl := Lib.hid (oneL_len n n.toNat)
  have hu := Lib.hid (fun w => oneS_any n w h1 h8)
  have hq := Lib.hid (show (wbl zbs 0 n).length = 16 by rw [wbl_len]; rfl)
  obtain ⟨M, hM⟩ : ∃ M, oneL n n.toNat = M := ⟨_, rfl⟩
  rw [hM] at hl hu ⊢
  clear hM
  go_enter Try.func51, Try.ntmps51
  go_wp2_with (first
    | ((go_at_call 71; ((with_reducible refine (hu.out _).mono ?_); rintro e w1 ⟨rfl, hB1⟩)); have hZ1 : Own w1 w.heap.size zbl 38 := (Own.new _ _ _).below hB1 (by simp); have b1 := ((Below.refl w.heap.size w).alloc (Nat.le_refl _) (.cells zbl 38)).trans (hB1.mono (by simp)))
    | (refine wpList_build_of rfl 38 #[(0, .tmp 5)] rfl (bcl n M zbs) ?_ ?_; (exact builtB1 _ _ hl.out))
    | ((refine wpList_store_own rfl 38 _ _ rfl _ _ rfl rfl 38 _ (Own.new w1 _ _) (rowB (b33 _ _ _ (hl.out) (zbsl))) (zb _ _ _ hl.out zbsl) (bcl_one _ _ _) ?_; intro w2 hO2 hN2); have c1 : w2.cell? ⟨w1.heap.size, 17, none⟩ = some (.bool (zbs.getD 0 false)) := (by rw [hO2.cell]; exact bcl_blob n M zbs hl.out 0 (by decide)); have f1 := hO2.free 17; have hO3 : Own (w2.setCell ⟨w1.heap.size, 17, none⟩ (.bool true)) w1.heap.size (bcl n M (zbs.set 0 true)) 38 := (by have := hO2.set (17 + 0) (.bool true); rw [bcl_set _ _ _ hl.out] at this; exact this); have c2 : (w2.setCell ⟨w1.heap.size, 17, none⟩ (.bool true)).cell? ⟨w1.heap.size, 17 + n.toNat, none⟩ = some (.bool ((zbs.set 0 true).getD n.toNat false)) := (by rw [hO3.cell, bcl_blob _ _ _ hl.out _ (by rw [List.length_set, zbsl]; omega)]); have f2 := hO3.free (17 + n.toNat); have f3 := hO2.free (17 + n.toNat); have hO4 : Own ((w2.setCell ⟨w1.heap.size, 17, none⟩ (.bool true)).setCell ⟨w1.heap.size, 17 + n.toNat, none⟩ (.bool true)) w1.heap.size (bcl n M (wbl zbs 0 n)) 38 := (by have := hO3.set (17 + n.toNat) (.bool true); rw [bcl_set _ _ _ hl.out] at this; exact this); have n16 : n < 16 := (by omega))
    | (refine wpList_load_row rfl 38 _ rfl _ rfl 38 _ (0, 0) _ (hO4) Try.underlying38 rfl (rowB (b33 _ _ _ (hl.out) (hq.out))) ?_)
    | (refine wpList_store_own rfl 38 _ _ rfl _ _ rfl rfl 38 _ ((((hZ1.alloc _).only hN2 (Nat.ne_of_lt hZ1.lt)).other (a := ⟨w1.heap.size, 17, none⟩) (Nat.ne_of_gt hZ1.lt) _).other (a := ⟨w1.heap.size, 17 + n.toNat, none⟩) (Nat.ne_of_gt hZ1.lt) _) (rowB (b33 _ _ _ (hl.out) (hq.out))) (zb _ _ _ hl.out hq.out) (bcl_one _ _ _) ?_; intro w5 hO5 hN5))
  refine bodyPost_ret (v := .agg (bcl n M (wbl zbs 0 n))) (results_cell_row rfl _ _ _ _ _ (0, 0) _ rfl (hO5) Try.underlying38 rfl (rowB (b33 _ _ _ (hl.out) (hq.out)))) rfl (⟨rfl, ((((b1.alloc b1.size _).trans (hN2.below.mono b1.size)).setCell (p := ⟨w1.heap.size, 17, none⟩) b1.size _).setCell (p := ⟨w1.heap.size, 17 + n.toNat, none⟩) b1.size _).trans (hN5.below.mono (Nat.le_refl _))⟩)
set_option maxRecDepth 100000 in
set_option maxHeartbeats 1000000 in
theorem blobS_ok (n : Int) (h1 : 1 ≤ n) (h8 : n ≤ 8) (w : World) :
    Calls Try.prog 26 #[.int .i64 n] w fun e w' => e = .returned (.tuple #[.agg (bcl n (oneL n n.toNat) (wbl zbs 0 n)), .int .i64 0]) ∧ Below w.heap.size w w' := by
  have hl := Lib.hid (oneL_len n n.toNat)
  have hu := Lib.hid (fun w => blobW_any n h1 h8 w)
  have hq := Lib.hid (show (wbl zbs 0 n).length = 16 by rw [wbl_len]; rfl)
  obtain ⟨M, hM⟩ : ∃ M, oneL n n.toNat = M := ⟨_, rfl⟩
  rw [hM] at hl hu ⊢
  obtain ⟨cs, hcs⟩ : ∃ cs, wbl zbs 0 n = cs := ⟨_, rfl⟩
  rw [hcs] at hq hu ⊢
  clear hM hcs
  go_enter Try.func26, Try.ntmps26
  go_wp2_with (first
    | (go_at_call 50; ((with_reducible refine (inS_t _ _ _ _ (by omega) (by omega)).mono ?_); rintro e w0 ⟨rfl, rfl⟩))
    | ((go_at_call 51; ((with_reducible refine (hu.out _).mono ?_); rintro e w1 ⟨rfl, hB1⟩)); have hZ1 : Own w1 w.heap.size zbl 38 := (Own.new _ _ _).below hB1 (by simp); have b1 := ((Below.refl w.heap.size w).alloc (Nat.le_refl _) (.cells zbl 38)).trans (hB1.mono (by simp)))
    | (refine wpList_store_own rfl 38 _ _ rfl _ _ rfl rfl 38 _ (hZ1) (rowB (b33 _ _ _ (hl.out) (hq.out))) (zb _ _ _ hl.out hq.out) (bcl_one _ _ _) ?_; intro w3 hO3 hN3))
  refine bodyPost_ret (v := .tuple #[.agg (bcl n M cs), .int .i64 0]) (results_row_tmp rfl _ _ _ _ _ (0, 0) _ rfl (hO3) Try.underlying38 rfl (rowB (b33 _ _ _ (hl.out) (hq.out))) _ rfl) rfl (⟨rfl, b1.trans (hN3.below.mono (Nat.le_refl _))⟩)
set_option maxRecDepth 100000 in
theorem blobS_bad (n : Int) (h : n < 1 ∨ 8 < n) (w : World) :
    Calls Try.prog 26 #[.int .i64 n] w fun e w' => e = .returned (.tuple #[.agg (bcl 0 zeros zbs), .int .i64 2]) ∧ Below w.heap.size w w' := by
  have hh := Lib.hid h
  clear h
  go_enter Try.func26, Try.ntmps26
  go_wp2_with (first
    | (go_at_call 50; ((with_reducible refine (inS_f _ _ _ _ hh.out).mono ?_); rintro e w0 ⟨rfl, rfl⟩))
    | (refine wpList_build_of rfl 38 #[] rfl zbl ?_ ?_; (exact builtB0))
    | (refine wpList_store_own rfl 38 _ _ rfl _ _ rfl rfl 38 _ (Own.new w _ _) (rowB (b33 _ _ _ (zlen) (zbsl))) (rfl) (bcl_one _ _ _) ?_; intro w3 hO3 hN3))
  refine bodyPost_ret (v := .tuple #[.agg (zbl), .int .i64 2]) (results_row_tmp rfl _ _ _ _ _ (0, 0) _ rfl (hO3) Try.underlying38 rfl (rowB (b33 _ _ _ (zlen) (zbsl))) _ rfl) rfl (⟨rfl, ((Below.refl _ _).alloc (Nat.le_refl _) _).trans (hN3.below.mono (Nat.le_refl _))⟩)
set_option maxRecDepth 100000 in
set_option maxHeartbeats 1000000 in
theorem BlobOf_walk (n : Int) (w : World) (m c : Int) (rs : List Int) (cs : List Bool) (hr : rs.length = 16) (hq : cs.length = 16)
    (hS : ∀ w, Calls Try.prog 26 #[.int .i64 n] w fun e w' => e = .returned (.tuple #[.agg (bcl m rs cs), .int .i64 c]) ∧ Below w.heap.size w w')
    (hI : ∀ w, Calls Try.prog 27 #[.int .i64 n] w fun e w' => e = .returned (.tuple #[.agg (bcl m rs cs), .int .i64 c]) ∧ Below w.heap.size w w') :
    Calls Try.prog 7 #[.int .i64 n] w fun e w' => e = .returned (.bool true) ∧ Below w.heap.size w w' := by
  have hS' := Lib.hid hS
  have hI' := Lib.hid hI
  have hh := Lib.hid hr
  have hh2 := Lib.hid hq
  clear hS hI hr hq
  go_enter Try.func7, Try.ntmps7
  go_wp2_with (first
    | (go_at_call 26; ((with_reducible refine (hS'.out _).mono ?_); rintro e w2 ⟨rfl, hB2⟩; have b2 : Below w.heap.size w w2 := hB2))
    | (go_at_call 27; ((with_reducible refine (hI'.out _).mono ?_); rintro e w5 ⟨rfl, hB5⟩; have hO5 : Own w5 w2.heap.size (bcl m rs cs) 38 := hO3.below hB5 hO3.lt; have b5 := b3.trans (hB5.mono b3.size)))
    | (refine wpList_load_row rfl 38 _ rfl _ rfl 38 _ (0, 0) _ (hO6) Try.underlying38 rfl (rowB (b33 _ _ _ (hh.out) (hh2.out))) ?_)
    | (refine wpList_load_row rfl 38 _ rfl _ rfl 38 _ (0, 0) _ ((hO5.alloc _).only hN6 (Nat.ne_of_lt hO5.lt)) Try.underlying38 rfl (rowB (b33 _ _ _ (hh.out) (hh2.out))) ?_)
    | (go_at_call 25; refine (eqBl_same m rs cs hh.out hh2.out _).mono ?_; rintro e w7 ⟨rfl, hB7⟩)
    | (refine wpList_store_own rfl 38 _ _ rfl _ _ rfl rfl 38 _ (Own.new w5 _ _) (rowB (b33 _ _ _ (hh.out) (hh2.out))) (zb _ _ _ hh.out hh2.out) (bcl_one _ _ _) ?_; intro w6 hO6 hN6)
    | ((refine wpList_store_own rfl 38 _ _ rfl _ _ rfl rfl 38 _ (Own.new w2 _ _) (rowB (b33 _ _ _ (hh.out) (hh2.out))) (zb _ _ _ hh.out hh2.out) (bcl_one _ _ _) ?_; intro w3 hO3 hN3); have b3 : Below w.heap.size w w3 := (b2.alloc b2.size _).trans (hN3.below.mono b2.size)))
  go_ret
  have b6 : Below w.heap.size w w6 := (b5.alloc b5.size _).trans (hN6.below.mono b5.size)
  exact ⟨rfl, b6.trans (hB7.mono b6.size)⟩
theorem blo_law (n : Int) (w : World) :
    Calls Try.prog 7 #[.int .i64 n] w fun e w' => e = .returned (.bool true) ∧ Below w.heap.size w w' := by
  by_cases h : 1 ≤ n ∧ n ≤ 8
  · exact BlobOf_walk n w n 0 _ _ (oneL_len _ _) (by rw [wbl_len]; rfl) (blobS_ok n h.1 h.2) (blobI_ok n h.1 h.2)
  · exact BlobOf_walk n w 0 2 zeros zbs zlen zbsl (blobS_bad n (by omega)) (blobI_bad n (by omega))
end Go.Proofs.Ytbegolbognkefaa
