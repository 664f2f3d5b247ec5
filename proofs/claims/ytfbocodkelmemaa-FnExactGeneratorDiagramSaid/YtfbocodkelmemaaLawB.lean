/- The laws of the unit and of the generators. -/
import Derived.Test.YtfbocodkelmemaaImplB
import Derived.Test.YtfbocodkelmemaaLawA
namespace Go.Proofs.Ytfbocodkelmemaa
open Go.RowKit
set_option maxRecDepth 100000 in
theorem UnitDiagram_walk (n : Int) (w : World) (m c : Int) (ms : List Int) (hl : ms.length = 16)
    (hS : ∀ w, Calls Try.prog 29 #[.int .i64 n] w fun e w' => e = .returned (.tuple #[.agg (dcells m ms), .int .i64 c]) ∧ Below w.heap.size w w')
    (hI : ∀ w, Calls Try.prog 22 #[.int .i64 n] w fun e w' => e = .returned (.tuple #[.agg (dcells m ms), .int .i64 c]) ∧ Below w.heap.size w w') :
    Calls Try.prog 9 #[.int .i64 n] w fun e w' => e = .returned (.bool true) ∧ Below w.heap.size w w' := by
  have hh := Lib.hid hl
  have hS' := Lib.hid hS
  have hI' := Lib.hid hI
  clear hl hS hI
  go_enter Try.func9, Try.ntmps9
  go_wp2_with (first
    | (go_at_call 29; ((with_reducible refine (hS'.out _).mono ?_); rintro e w1 ⟨rfl, hB1⟩))
    | (go_at_call 22; ((with_reducible refine (hI'.out _).mono ?_); rintro e w3 ⟨rfl, hB3⟩))
    | (refine wpList_load_row rfl 26 _ rfl _ rfl 26 _ (0, 0) _ (hO4) Try.underlying26 rfl (row26 (d17 _ _ (hh.out))) ?_)
    | (refine wpList_load_row rfl 26 _ rfl _ rfl 26 _ (0, 0) _ (((hO2.below hB3 hO2.lt).alloc _).only hN4 (Nat.ne_of_lt (Nat.lt_of_lt_of_le hO2.lt hB3.size))) Try.underlying26 rfl (row26 (d17 _ _ (hh.out))) ?_)
    | (go_at_call 60; refine (eqD_same m ms hh.out _).mono ?_; rintro e w5 ⟨rfl, hB5⟩)
    | (refine wpList_store_own rfl 26 _ _ rfl _ _ rfl rfl 26 _ (Own.new w3 _ _) (row26 (d17 _ _ (hh.out))) (z_eq (d17 _ _ hh.out)) (dcells_one _ _) ?_; intro w4 hO4 hN4)
    | (refine wpList_store_own rfl 26 _ _ rfl _ _ rfl rfl 26 _ (Own.new w1 _ _) (row26 (d17 _ _ (hh.out))) (z_eq (d17 _ _ hh.out)) (dcells_one _ _) ?_; intro w2 hO2 hN2))
  go_ret
  refine ⟨rfl, ?_⟩
  have b2 : Below w.heap.size w w2 := (hB1.alloc hB1.size _).trans (hN2.below.mono hB1.size)
  have b3 : Below w.heap.size w w3 := b2.trans (hB3.mono b2.size)
  have b4 : Below w.heap.size w w4 := (b3.alloc b3.size _).trans (hN4.below.mono b3.size)
  exact b4.trans (hB5.mono b4.size)
set_option maxRecDepth 100000 in
theorem GeneratorDiagram_walk (n i : Int) (w : World) (m c : Int) (ms : List Int) (hl : ms.length = 16)
    (hS : ∀ w, Calls Try.prog 42 #[.int .i64 n, .int .i64 i] w fun e w' => e = .returned (.tuple #[.agg (dcells m ms), .int .i64 c]) ∧ Below w.heap.size w w')
    (hI : ∀ w, Calls Try.prog 41 #[.int .i64 n, .int .i64 i] w fun e w' => e = .returned (.tuple #[.agg (dcells m ms), .int .i64 c]) ∧ Below w.heap.size w w') :
    Calls Try.prog 10 #[.int .i64 n, .int .i64 i] w fun e w' => e = .returned (.bool true) ∧ Below w.heap.size w w' := by
  have hh := Lib.hid hl
  have hS' := Lib.hid hS
  have hI' := Lib.hid hI
  clear hl hS hI
  go_enter Try.func10, Try.ntmps10
  go_wp2_with (first
    | (go_at_call 42; ((with_reducible refine (hS'.out _).mono ?_); rintro e w1 ⟨rfl, hB1⟩))
    | (go_at_call 41; ((with_reducible refine (hI'.out _).mono ?_); rintro e w3 ⟨rfl, hB3⟩))
    | (refine wpList_load_row rfl 26 _ rfl _ rfl 26 _ (0, 0) _ (hO4) Try.underlying26 rfl (row26 (d17 _ _ (hh.out))) ?_)
    | (refine wpList_load_row rfl 26 _ rfl _ rfl 26 _ (0, 0) _ (((hO2.below hB3 hO2.lt).alloc _).only hN4 (Nat.ne_of_lt (Nat.lt_of_lt_of_le hO2.lt hB3.size))) Try.underlying26 rfl (row26 (d17 _ _ (hh.out))) ?_)
    | (go_at_call 60; refine (eqD_same m ms hh.out _).mono ?_; rintro e w5 ⟨rfl, hB5⟩)
    | (refine wpList_store_own rfl 26 _ _ rfl _ _ rfl rfl 26 _ (Own.new w3 _ _) (row26 (d17 _ _ (hh.out))) (z_eq (d17 _ _ hh.out)) (dcells_one _ _) ?_; intro w4 hO4 hN4)
    | (refine wpList_store_own rfl 26 _ _ rfl _ _ rfl rfl 26 _ (Own.new w1 _ _) (row26 (d17 _ _ (hh.out))) (z_eq (d17 _ _ hh.out)) (dcells_one _ _) ?_; intro w2 hO2 hN2))
  go_ret
  refine ⟨rfl, ?_⟩
  have b2 : Below w.heap.size w w2 := (hB1.alloc hB1.size _).trans (hN2.below.mono hB1.size)
  have b3 : Below w.heap.size w w3 := b2.trans (hB3.mono b2.size)
  have b4 : Below w.heap.size w w4 := (b3.alloc b3.size _).trans (hN4.below.mono b3.size)
  exact b4.trans (hB5.mono b4.size)

theorem unit_law (n : Int) (w : World) : Calls Try.prog 9 #[.int .i64 n] w fun e w' => e = .returned (.bool true) ∧ Below w.heap.size w w' := by
  by_cases h : 1 ≤ n ∧ n ≤ 8
  · exact UnitDiagram_walk n w n 0 _ (oneL_len n _) (fun w => unitS_ok n w h.1 h.2) (fun w => unitI_ok n w h.1 h.2)
  · exact UnitDiagram_walk n w 0 2 _ zlen (fun w => unitS_bad n w (by omega)) (fun w => unitI_bad n w (by omega))
theorem gen_law (n i : Int) (w : World) : Calls Try.prog 10 #[.int .i64 n, .int .i64 i] w fun e w' => e = .returned (.bool true) ∧ Below w.heap.size w w' := by
  by_cases h : 2 ≤ n ∧ n ≤ 8 ∧ 0 ≤ i ∧ i ≤ n - 2
  · exact GeneratorDiagram_walk n i w n 0 _ (cupL_len n i) (fun w => genS_ok n i w h.1 h.2.1 h.2.2.1 h.2.2.2) (fun w => genI_ok n i w h.1 h.2.1 h.2.2.1 h.2.2.2)
  · exact GeneratorDiagram_walk n i w 0 2 _ zlen (fun w => genS_bad n i w (by omega)) (fun w => genI_bad n i w (by omega))
end Go.Proofs.Ytfbocodkelmemaa
