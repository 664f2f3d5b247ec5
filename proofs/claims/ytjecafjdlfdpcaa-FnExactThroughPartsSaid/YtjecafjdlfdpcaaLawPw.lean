/- The walks of the laws over partitions. -/
import Derived.Test.YtjecafjdlfdpcaaPii
namespace Go.Proofs.Ytjecafjdlfdpcaa
open Go.RowKit
set_option linter.unusedVariables false
theorem isPIb_any (n : Int) (ms : List Int) (hms : ms.length = 8) (hb : Bytes ms) (w : World) :
    Calls Try.prog 15 #[.agg (dcells n ms)] w fun e w' => e = .returned (.bool (isP n ms)) ∧ Below w.heap.size w w' := isPI_any n ms hms w
set_option maxRecDepth 100000 in
theorem isPSx_any (n : Int) (ms : List Int) (hms : ms.length = 8) (hb : Bytes ms) (w : World) :
    Calls Try.prog 13 #[.agg (dcells n ms)] w fun e w' => e = .returned (.bool (isP n ms)) ∧ Below w.heap.size w w' := by
  have hl := Lib.hid hms
  have hc := Lib.hid (fun w => isPS_any n ms hms hb w)
  obtain ⟨b, hbb⟩ : ∃ b, isP n ms = b := ⟨_, rfl⟩
  rw [hbb] at hc ⊢
  clear hms hb hbb
  go_enter Try.func13, Try.ntmps13
  go_wp2_with (first
    | (refine wpList_load_row rfl 26 _ rfl _ rfl 26 _ (0, 0) _ (Own.new _ _ _) Try.underlying26 rfl (rowP (d9 _ _ (hl.out))) ?_)
    | (go_at_call 39; ((with_reducible refine (hc.out _).mono ?_); rintro e w1 ⟨rfl, hB1⟩)))
  go_ret
  have b0 : Below w.heap.size w (w.alloc (.cells (dcells n ms) 26)) := (Below.refl _ _).alloc (Nat.le_refl _) _
  exact ⟨rfl, b0.trans (hB1.mono b0.size)⟩
set_option maxRecDepth 100000 in
theorem isp_law (n : Int) (ms : List Int) (hms : ms.length = 8) (hb : Bytes ms) (w : World) :
    Calls Try.prog 3 #[.agg (dcells n ms)] w fun e w' => e = .returned (.bool true) ∧ Below w.heap.size w w' := by
  have hl := Lib.hid hms
  have hS := Lib.hid (fun w => isPSx_any n ms hms hb w)
  have hI := Lib.hid (fun w => isPIb_any n ms hms hb w)
  obtain ⟨b, hbb⟩ : ∃ b, isP n ms = b := ⟨_, rfl⟩
  rw [hbb] at hS hI
  clear hms hb hbb
  go_enter Try.func3, Try.ntmps3
  go_wp2_with (first
    | (refine wpList_load_row rfl 24 _ rfl _ rfl 24 _ (0, 0) _ (Own.new _ _ _) Try.underlying24 rfl (rowLP (d9 _ _ (hl.out))) ?_)
    | (go_at_call 13; ((with_reducible refine (hS.out _).mono ?_); rintro e w2 ⟨rfl, hB2⟩))
    | (go_at_call 15; ((with_reducible refine (hI.out _).mono ?_); rintro e w4 ⟨rfl, hB4⟩))
    | (go_at_call 14; ((with_reducible refine (toP_any n ms hl.out w2).mono ?_); rintro e w3 ⟨rfl, hB3⟩))
    | (go_at_call 14; ((with_reducible refine (toP_any n ms hl.out _).mono ?_); rintro e w1 ⟨rfl, hB1⟩))
    | (refine wpList_load_row rfl 24 _ rfl _ rfl 24 _ (0, 0) _ (((Own.new _ _ _).below hB1 (by simp)).below hB2 (Nat.lt_of_lt_of_le (by simp) hB1.size)) Try.underlying24 rfl (rowLP (d9 _ _ (hl.out))) ?_))
  go_ret
  have b0 : Below w.heap.size w (w.alloc (.cells (dcells n ms) 24)) := (Below.refl _ _).alloc (Nat.le_refl _) _
  have b1 := b0.trans (hB1.mono b0.size)
  have b2 := b1.trans (hB2.mono b1.size)
  have b3 := b2.trans (hB3.mono b2.size)
  exact ⟨rfl, b3.trans (hB4.mono b3.size)⟩
set_option maxRecDepth 100000 in
theorem PartitionText_walk (n : Int) (ms : List Int) (hms : ms.length = 8) (w : World) (a : ByteArray) (c : Int)
    (hS : ∀ w, Calls Try.prog 16 #[.agg (dcells n ms)] w fun e w' => e = .returned (.tuple #[.string a, .int .i64 c]) ∧ Below w.heap.size w w')
    (hI : ∀ w, Calls Try.prog 17 #[.agg (dcells n ms)] w fun e w' => e = .returned (.tuple #[.string a, .int .i64 c]) ∧ Below w.heap.size w w') :
    Calls Try.prog 4 #[.agg (dcells n ms)] w fun e w' => e = .returned (.bool true) ∧ Below w.heap.size w w' := by
  have hl := Lib.hid hms
  have hS' := Lib.hid hS
  have hI' := Lib.hid hI
  clear hms hS hI
  go_enter Try.func4, Try.ntmps4
  go_wp2_with (first
    | (refine wpList_load_row rfl 24 _ rfl _ rfl 24 _ (0, 0) _ (Own.new _ _ _) Try.underlying24 rfl (rowLP (d9 _ _ (hl.out))) ?_)
    | (go_at_call 16; ((with_reducible refine (hS'.out _).mono ?_); rintro e w2 ⟨rfl, hB2⟩))
    | (go_at_call 17; ((with_reducible refine (hI'.out _).mono ?_); rintro e w4 ⟨rfl, hB4⟩))
    | (go_at_call 14; ((with_reducible refine (toP_any n ms hl.out w2).mono ?_); rintro e w3 ⟨rfl, hB3⟩))
    | (go_at_call 14; ((with_reducible refine (toP_any n ms hl.out _).mono ?_); rintro e w1 ⟨rfl, hB1⟩))
    | (refine wpList_load_row rfl 24 _ rfl _ rfl 24 _ (0, 0) _ (((Own.new _ _ _).below hB1 (by simp)).below hB2 (Nat.lt_of_lt_of_le (by simp) hB1.size)) Try.underlying24 rfl (rowLP (d9 _ _ (hl.out))) ?_))
  go_ret
  have b0 : Below w.heap.size w (w.alloc (.cells (dcells n ms) 24)) := (Below.refl _ _).alloc (Nat.le_refl _) _
  have b1 := b0.trans (hB1.mono b0.size)
  have b2 := b1.trans (hB2.mono b1.size)
  have b3 := b2.trans (hB3.mono b2.size)
  exact ⟨rfl, b3.trans (hB4.mono b3.size)⟩
set_option maxRecDepth 100000 in
theorem ThroughParts_walk (n : Int) (ms : List Int) (hms : ms.length = 8) (w : World) (a c : Int)
    (hS : ∀ w, Calls Try.prog 27 #[.agg (dcells n ms)] w fun e w' => e = .returned (.tuple #[.int .i64 a, .int .i64 c]) ∧ Below w.heap.size w w')
    (hI : ∀ w, Calls Try.prog 28 #[.agg (dcells n ms)] w fun e w' => e = .returned (.tuple #[.int .i64 a, .int .i64 c]) ∧ Below w.heap.size w w') :
    Calls Try.prog 9 #[.agg (dcells n ms)] w fun e w' => e = .returned (.bool true) ∧ Below w.heap.size w w' := by
  have hl := Lib.hid hms
  have hS' := Lib.hid hS
  have hI' := Lib.hid hI
  clear hms hS hI
  go_enter Try.func9, Try.ntmps9
  go_wp2_with (first
    | (refine wpList_load_row rfl 24 _ rfl _ rfl 24 _ (0, 0) _ (Own.new _ _ _) Try.underlying24 rfl (rowLP (d9 _ _ (hl.out))) ?_)
    | (go_at_call 27; ((with_reducible refine (hS'.out _).mono ?_); rintro e w2 ⟨rfl, hB2⟩))
    | (go_at_call 28; ((with_reducible refine (hI'.out _).mono ?_); rintro e w4 ⟨rfl, hB4⟩))
    | (go_at_call 14; ((with_reducible refine (toP_any n ms hl.out w2).mono ?_); rintro e w3 ⟨rfl, hB3⟩))
    | (go_at_call 14; ((with_reducible refine (toP_any n ms hl.out _).mono ?_); rintro e w1 ⟨rfl, hB1⟩))
    | (refine wpList_load_row rfl 24 _ rfl _ rfl 24 _ (0, 0) _ (((Own.new _ _ _).below hB1 (by simp)).below hB2 (Nat.lt_of_lt_of_le (by simp) hB1.size)) Try.underlying24 rfl (rowLP (d9 _ _ (hl.out))) ?_))
  go_ret
  have b0 : Below w.heap.size w (w.alloc (.cells (dcells n ms) 24)) := (Below.refl _ _).alloc (Nat.le_refl _) _
  have b1 := b0.trans (hB1.mono b0.size)
  have b2 := b1.trans (hB2.mono b1.size)
  have b3 := b2.trans (hB3.mono b2.size)
  exact ⟨rfl, b3.trans (hB4.mono b3.size)⟩
set_option maxRecDepth 100000 in
theorem FlipPartition_walk (n : Int) (ms : List Int) (hms : ms.length = 8) (w : World) (m c : Int) (rs : List Int) (hr : rs.length = 8)
    (hS : ∀ w, Calls Try.prog 23 #[.agg (dcells n ms)] w fun e w' => e = .returned (.tuple #[.agg (dcells m rs), .int .i64 c]) ∧ Below w.heap.size w w')
    (hI : ∀ w, Calls Try.prog 24 #[.agg (dcells n ms)] w fun e w' => e = .returned (.tuple #[.agg (dcells m rs), .int .i64 c]) ∧ Below w.heap.size w w') :
    Calls Try.prog 7 #[.agg (dcells n ms)] w fun e w' => e = .returned (.bool true) ∧ Below w.heap.size w w' := by
  have hl := Lib.hid hms
  have hh := Lib.hid hr
  have hS' := Lib.hid hS
  have hI' := Lib.hid hI
  clear hms hr hS hI
  go_enter Try.func7, Try.ntmps7
  go_wp2_with (first
    | (refine wpList_load_row rfl 24 _ rfl _ rfl 24 _ (0, 0) _ (Own.new w _ _) Try.underlying24 rfl (rowLP (d9 _ _ (hl.out))) ?_)
    | (go_at_call 14; ((with_reducible refine (toP_any n ms hl.out w3).mono ?_); rintro e w4 ⟨rfl, hB4⟩))
    | (go_at_call 14; ((with_reducible refine (toP_any n ms hl.out _).mono ?_); rintro e w1 ⟨rfl, hB1⟩))
    | (go_at_call 23; ((with_reducible refine (hS'.out _).mono ?_); rintro e w2 ⟨rfl, hB2⟩; have hA2 : Own w2 w.heap.size (dcells n ms) 24 := ((Own.new w _ _).below hB1 (by simp)).below hB2 (Nat.lt_of_lt_of_le (by simp) hB1.size); have b2 : Below w.heap.size w w2 := (((Below.refl w.heap.size w).alloc (Nat.le_refl _) _).trans (hB1.mono (by simp))).trans (hB2.mono (Nat.le_trans (by simp) hB1.size))))
    | (go_at_call 24; ((with_reducible refine (hI'.out _).mono ?_); rintro e w5 ⟨rfl, hB5⟩; have hO5 : Own w5 w2.heap.size (dcells m rs) 26 := (hO3.below hB4 hO3.lt).below hB5 (Nat.lt_of_lt_of_le hO3.lt hB4.size)))
    | (refine wpList_load_row rfl 24 _ rfl _ rfl 24 _ (0, 0) _ ((hA2.alloc _).only hN3 (Nat.ne_of_lt hA2.lt)) Try.underlying24 rfl (rowLP (d9 _ _ (hl.out))) ?_)
    | (refine wpList_load_row rfl 26 _ rfl _ rfl 26 _ (0, 0) _ (hO6) Try.underlying26 rfl (rowP (d9 _ _ (hh.out))) ?_)
    | (refine wpList_load_row rfl 26 _ rfl _ rfl 26 _ (0, 0) _ ((hO5.alloc _).only hN6 (Nat.ne_of_lt hO5.lt)) Try.underlying26 rfl (rowP (d9 _ _ (hh.out))) ?_)
    | (go_at_call 20; refine (eqP_same m rs hh.out _).mono ?_; rintro e w7 ⟨rfl, hB7⟩)
    | (refine wpList_store_own rfl 26 _ _ rfl _ _ rfl rfl 26 _ (Own.new w5 _ _) (rowP (d9 _ _ (hh.out))) (z_eq8 (d9 _ _ hh.out)) (dcells_one _ _) ?_; intro w6 hO6 hN6)
    | (refine wpList_store_own rfl 26 _ _ rfl _ _ rfl rfl 26 _ (Own.new w2 _ _) (rowP (d9 _ _ (hh.out))) (z_eq8 (d9 _ _ hh.out)) (dcells_one _ _) ?_; intro w3 hO3 hN3))
  go_ret
  refine ⟨rfl, ?_⟩
  have b3 : Below w.heap.size w w3 := (b2.alloc b2.size _).trans (hN3.below.mono b2.size)
  have b4 := b3.trans (hB4.mono b3.size)
  have b5 := b4.trans (hB5.mono b4.size)
  have b6 : Below w.heap.size w w6 := (b5.alloc b5.size _).trans (hN6.below.mono b5.size)
  exact b6.trans (hB7.mono b6.size)
set_option maxRecDepth 100000 in
theorem UnitPartition_walk (n : Int) (w : World) (m c : Int) (ms : List Int) (hl : ms.length = 8)
    (hS : ∀ w, Calls Try.prog 21 #[.int .i64 n] w fun e w' => e = .returned (.tuple #[.agg (dcells m ms), .int .i64 c]) ∧ Below w.heap.size w w')
    (hI : ∀ w, Calls Try.prog 22 #[.int .i64 n] w fun e w' => e = .returned (.tuple #[.agg (dcells m ms), .int .i64 c]) ∧ Below w.heap.size w w') :
    Calls Try.prog 6 #[.int .i64 n] w fun e w' => e = .returned (.bool true) ∧ Below w.heap.size w w' := by
  have hh := Lib.hid hl
  have hS' := Lib.hid hS
  have hI' := Lib.hid hI
  clear hl hS hI
  go_enter Try.func6, Try.ntmps6
  go_wp2_with (first
    | (go_at_call 21; ((with_reducible refine (hS'.out _).mono ?_); rintro e w1 ⟨rfl, hB1⟩))
    | (go_at_call 22; ((with_reducible refine (hI'.out _).mono ?_); rintro e w3 ⟨rfl, hB3⟩))
    | (refine wpList_load_row rfl 26 _ rfl _ rfl 26 _ (0, 0) _ (hO4) Try.underlying26 rfl (rowP (d9 _ _ (hh.out))) ?_)
    | (refine wpList_load_row rfl 26 _ rfl _ rfl 26 _ (0, 0) _ (((hO2.below hB3 hO2.lt).alloc _).only hN4 (Nat.ne_of_lt (Nat.lt_of_lt_of_le hO2.lt hB3.size))) Try.underlying26 rfl (rowP (d9 _ _ (hh.out))) ?_)
    | (go_at_call 20; refine (eqP_same m ms hh.out _).mono ?_; rintro e w5 ⟨rfl, hB5⟩)
    | (refine wpList_store_own rfl 26 _ _ rfl _ _ rfl rfl 26 _ (Own.new w3 _ _) (rowP (d9 _ _ (hh.out))) (z_eq8 (d9 _ _ hh.out)) (dcells_one _ _) ?_; intro w4 hO4 hN4)
    | (refine wpList_store_own rfl 26 _ _ rfl _ _ rfl rfl 26 _ (Own.new w1 _ _) (rowP (d9 _ _ (hh.out))) (z_eq8 (d9 _ _ hh.out)) (dcells_one _ _) ?_; intro w2 hO2 hN2))
  go_ret
  refine ⟨rfl, ?_⟩
  have b2 : Below w.heap.size w w2 := (hB1.alloc hB1.size _).trans (hN2.below.mono hB1.size)
  have b3 : Below w.heap.size w w3 := b2.trans (hB3.mono b2.size)
  have b4 : Below w.heap.size w w4 := (b3.alloc b3.size _).trans (hN4.below.mono b3.size)
  exact b4.trans (hB5.mono b4.size)
set_option maxRecDepth 100000 in
theorem ParsePartition_walk (s : ByteArray) (w : World) (h20 : s.size ≤ 1048576) (m c : Int) (ms : List Int) (hl : ms.length = 8)
    (hS : ∀ w, Calls Try.prog 18 #[.string s] w fun e w' => e = .returned (.tuple #[.agg (dcells m ms), .int .i64 c]) ∧ Below w.heap.size w w')
    (hI : ∀ w, Calls Try.prog 19 #[.string s] w fun e w' => e = .returned (.tuple #[.agg (dcells m ms), .int .i64 c]) ∧ Below w.heap.size w w') :
    Calls Try.prog 5 #[.string s] w fun e w' => e = .returned (.bool true) ∧ Below w.heap.size w w' := by
  have hh := Lib.hid hl
  have hS' := Lib.hid hS
  have hI' := Lib.hid hI
  clear hl hS hI
  go_enter Try.func5, Try.ntmps5
  go_wp2_with (first
    | (go_at_call 18; ((with_reducible refine (hS'.out _).mono ?_); rintro e w1 ⟨rfl, hB1⟩))
    | (go_at_call 19; ((with_reducible refine (hI'.out _).mono ?_); rintro e w3 ⟨rfl, hB3⟩))
    | (refine wpList_load_row rfl 26 _ rfl _ rfl 26 _ (0, 0) _ (hO4) Try.underlying26 rfl (rowP (d9 _ _ (hh.out))) ?_)
    | (refine wpList_load_row rfl 26 _ rfl _ rfl 26 _ (0, 0) _ (((hO2.below hB3 hO2.lt).alloc _).only hN4 (Nat.ne_of_lt (Nat.lt_of_lt_of_le hO2.lt hB3.size))) Try.underlying26 rfl (rowP (d9 _ _ (hh.out))) ?_)
    | (go_at_call 20; refine (eqP_same m ms hh.out _).mono ?_; rintro e w5 ⟨rfl, hB5⟩)
    | (refine wpList_store_own rfl 26 _ _ rfl _ _ rfl rfl 26 _ (Own.new w3 _ _) (rowP (d9 _ _ (hh.out))) (z_eq8 (d9 _ _ hh.out)) (dcells_one _ _) ?_; intro w4 hO4 hN4)
    | (refine wpList_store_own rfl 26 _ _ rfl _ _ rfl rfl 26 _ (Own.new w1 _ _) (rowP (d9 _ _ (hh.out))) (z_eq8 (d9 _ _ hh.out)) (dcells_one _ _) ?_; intro w2 hO2 hN2))
  go_ret
  refine ⟨rfl, ?_⟩
  have b2 : Below w.heap.size w w2 := (hB1.alloc hB1.size _).trans (hN2.below.mono hB1.size)
  have b3 : Below w.heap.size w w3 := b2.trans (hB3.mono b2.size)
  have b4 : Below w.heap.size w w4 := (b3.alloc b3.size _).trans (hN4.below.mono b3.size)
  exact b4.trans (hB5.mono b4.size)
set_option maxRecDepth 100000 in
theorem parseP_big (s : ByteArray) (w : World) (hm : s.size ≤ maxLen) (h : 1048576 < s.size) : Calls Try.prog 5 #[.string s] w fun e w' => e = .returned (.bool true) ∧ Below w.heap.size w w' := by
  unfold maxLen at hm
  go_enter Try.func5, Try.ntmps5
  go_wp2
  go_ret
  exact ⟨rfl, Below.refl _ _⟩
set_option maxRecDepth 100000 in
theorem PartitionOfDiagram_walk (n : Int) (ms : List Int) (hms : ms.length = 16) (w : World) (m c : Int) (rs : List Int) (hr : rs.length = 8)
    (hS : ∀ w, Calls Try.prog 29 #[.agg (dcells n ms)] w fun e w' => e = .returned (.tuple #[.agg (dcells m rs), .int .i64 c]) ∧ Below w.heap.size w w')
    (hI : ∀ w, Calls Try.prog 31 #[.agg (dcells n ms)] w fun e w' => e = .returned (.tuple #[.agg (dcells m rs), .int .i64 c]) ∧ Below w.heap.size w w') :
    Calls Try.prog 10 #[.agg (dcells n ms)] w fun e w' => e = .returned (.bool true) ∧ Below w.heap.size w w' := by
  have hl := Lib.hid hms
  have hh := Lib.hid hr
  have hS' := Lib.hid hS
  have hI' := Lib.hid hI
  clear hms hr hS hI
  go_enter Try.func10, Try.ntmps10
  go_wp2_with (first
    | (refine wpList_load_row rfl 44 _ rfl _ rfl 44 _ (0, 0) _ (Own.new w _ _) Try.underlying44 rfl (row50 (d17 _ _ (hl.out))) ?_)
    | (go_at_call 30; ((with_reducible refine (toD_any n ms hl.out w3).mono ?_); rintro e w4 ⟨rfl, hB4⟩))
    | (go_at_call 30; ((with_reducible refine (toD_any n ms hl.out _).mono ?_); rintro e w1 ⟨rfl, hB1⟩))
    | (go_at_call 29; ((with_reducible refine (hS'.out _).mono ?_); rintro e w2 ⟨rfl, hB2⟩; have hA2 : Own w2 w.heap.size (dcells n ms) 44 := ((Own.new w _ _).below hB1 (by simp)).below hB2 (Nat.lt_of_lt_of_le (by simp) hB1.size); have b2 : Below w.heap.size w w2 := (((Below.refl w.heap.size w).alloc (Nat.le_refl _) _).trans (hB1.mono (by simp))).trans (hB2.mono (Nat.le_trans (by simp) hB1.size))))
    | (go_at_call 31; ((with_reducible refine (hI'.out _).mono ?_); rintro e w5 ⟨rfl, hB5⟩; have hO5 : Own w5 w2.heap.size (dcells m rs) 26 := (hO3.below hB4 hO3.lt).below hB5 (Nat.lt_of_lt_of_le hO3.lt hB4.size)))
    | (refine wpList_load_row rfl 44 _ rfl _ rfl 44 _ (0, 0) _ ((hA2.alloc _).only hN3 (Nat.ne_of_lt hA2.lt)) Try.underlying44 rfl (row50 (d17 _ _ (hl.out))) ?_)
    | (refine wpList_load_row rfl 26 _ rfl _ rfl 26 _ (0, 0) _ (hO6) Try.underlying26 rfl (rowP (d9 _ _ (hh.out))) ?_)
    | (refine wpList_load_row rfl 26 _ rfl _ rfl 26 _ (0, 0) _ ((hO5.alloc _).only hN6 (Nat.ne_of_lt hO5.lt)) Try.underlying26 rfl (rowP (d9 _ _ (hh.out))) ?_)
    | (go_at_call 20; refine (eqP_same m rs hh.out _).mono ?_; rintro e w7 ⟨rfl, hB7⟩)
    | (refine wpList_store_own rfl 26 _ _ rfl _ _ rfl rfl 26 _ (Own.new w5 _ _) (rowP (d9 _ _ (hh.out))) (z_eq8 (d9 _ _ hh.out)) (dcells_one _ _) ?_; intro w6 hO6 hN6)
    | (refine wpList_store_own rfl 26 _ _ rfl _ _ rfl rfl 26 _ (Own.new w2 _ _) (rowP (d9 _ _ (hh.out))) (z_eq8 (d9 _ _ hh.out)) (dcells_one _ _) ?_; intro w3 hO3 hN3))
  go_ret
  refine ⟨rfl, ?_⟩
  have b3 : Below w.heap.size w w3 := (b2.alloc b2.size _).trans (hN3.below.mono b2.size)
  have b4 := b3.trans (hB4.mono b3.size)
  have b5 := b4.trans (hB5.mono b4.size)
  have b6 : Below w.heap.size w w6 := (b5.alloc b5.size _).trans (hN6.below.mono b5.size)
  exact b6.trans (hB7.mono b6.size)
end Go.Proofs.Ytjecafjdlfdpcaa
