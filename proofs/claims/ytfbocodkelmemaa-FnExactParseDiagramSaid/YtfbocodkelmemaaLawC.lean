/- The law of reading texts. -/
import Derived.Test.YtfbocodkelmemaaImplC
import Derived.Test.YtfbocodkelmemaaSpecC
import Derived.Test.YtfbocodkelmemaaLawA
namespace Go.Proofs.Ytfbocodkelmemaa
open Go.RowKit
set_option maxRecDepth 100000 in
theorem parseI_some (s : ByteArray) (w : World) (hm : s.size ≤ maxLen) (n : Int) (ms : List Int) (h : parse s.data.toList = some (n, ms)) :
    Calls Try.prog 48 #[.string s] w fun e w' => e = .returned (.tuple #[.agg (dcells n ms), .int .i64 0]) ∧ Below w.heap.size w w' := by
  have hl := Lib.hid (parse_len _ _ _ h)
  have hc := Lib.hid (fun w => (dot_any s w hm).mono fun e w' (hd : DotPost s w e w') => show e = .returned (.tuple #[.agg (dcells n ms), .bool true]) ∧ Below w.heap.size w w' from ⟨by rw [hd.1, h]; rfl, hd.2⟩)
  clear h hm
  go_enter Try.func48, Try.ntmps48
  go_wp2_with (first
    | (go_at_call 66; ((with_reducible refine (hc.out _).mono ?_); rintro e w1 ⟨rfl, hB1⟩))
    | (refine wpList_load_row rfl 26 _ rfl _ rfl 26 _ (0, 0) _ (hO2) Try.underlying26 rfl (row26 (d17 _ _ (hl.out))) ?_)
    | (refine wpList_store_own rfl 26 _ _ rfl _ _ rfl rfl 26 _ (((Own.new w _ _).below hB1 (by simp)).alloc _ |>.only hN2 (Nat.ne_of_lt (Nat.lt_of_lt_of_le (by simp) hB1.size))) (row26 (d17 _ _ (hl.out))) (z_eq (d17 _ _ hl.out)) (dcells_one _ _) ?_; intro w3 hO3 hN3)
    | (refine wpList_store_own rfl 26 _ _ rfl _ _ rfl rfl 26 _ (Own.new w1 _ _) (row26 (d17 _ _ (hl.out))) (z_eq (d17 _ _ hl.out)) (dcells_one _ _) ?_; intro w2 hO2 hN2))
  refine bodyPost_ret (v := .tuple #[.agg (dcells n ms), .int .i64 0]) (results_row_tmp rfl _ _ _ _ _ (0, 0) _ rfl (hO3) Try.underlying26 rfl (row26 (d17 _ _ (hl.out))) _ rfl) rfl (⟨rfl, ?_⟩)
  have b0 : Below w.heap.size w (w.alloc (.cells zcells 26)) := (Below.refl _ _).alloc (Nat.le_refl _) _
  have b1 : Below w.heap.size w w1 := b0.trans (hB1.mono b0.size)
  have b2 : Below w.heap.size w w2 := (b1.alloc b1.size _).trans (hN2.below.mono b1.size)
  exact b2.trans (hN3.below.mono (Nat.le_refl _))
set_option maxRecDepth 100000 in
theorem parseI_none (s : ByteArray) (w : World) (hm : s.size ≤ maxLen) (h : parse s.data.toList = none) :
    Calls Try.prog 48 #[.string s] w fun e w' => e = .returned (.tuple #[.agg zcells, .int .i64 6]) ∧ Below w.heap.size w w' := by
  have hc := Lib.hid (fun w => (dot_any s w hm).mono fun e w' (hd : DotPost s w e w') => show e = .returned (.tuple #[.agg zcells, .bool false]) ∧ Below w.heap.size w w' from ⟨by rw [hd.1, h]; rfl, hd.2⟩)
  clear h hm
  go_enter Try.func48, Try.ntmps48
  go_wp2_with (first
    | (go_at_call 66; ((with_reducible refine (hc.out _).mono ?_); rintro e w1 ⟨rfl, hB1⟩))
    | (refine wpList_build_of rfl 26 #[] rfl zcells ?_ ?_; (exact built26nil))
    | (refine wpList_store_own rfl 26 _ _ rfl _ _ rfl rfl 26 _ (((Own.new w _ _).below hB1 (by simp)).alloc _ |>.only hN2 (Nat.ne_of_lt (Nat.lt_of_lt_of_le (by simp) hB1.size))) (row26 (d17 _ _ (zlen))) (rfl) (dcells_one _ _) ?_; intro w3 hO3 hN3)
    | (refine wpList_store_own rfl 26 _ _ rfl _ _ rfl rfl 26 _ (Own.new w1 _ _) (row26 (d17 _ _ (zlen))) (rfl) (dcells_one _ _) ?_; intro w2 hO2 hN2))
  refine bodyPost_ret (v := .tuple #[.agg (zcells), .int .i64 6]) (results_row_tmp rfl _ _ _ _ _ (0, 0) _ rfl (hO3) Try.underlying26 rfl (row26 (d17 _ _ (zlen))) _ rfl) rfl (⟨rfl, ?_⟩)
  have b0 : Below w.heap.size w (w.alloc (.cells zcells 26)) := (Below.refl _ _).alloc (Nat.le_refl _) _
  have b1 : Below w.heap.size w w1 := b0.trans (hB1.mono b0.size)
  have b2 : Below w.heap.size w w2 := (b1.alloc b1.size _).trans (hN2.below.mono b1.size)
  exact b2.trans (hN3.below.mono (Nat.le_refl _))
set_option maxRecDepth 100000 in
theorem parseS_some (s : ByteArray) (w : World) (hm : s.size ≤ maxLen) (n : Int) (ms : List Int) (h : parse s.data.toList = some (n, ms)) :
    Calls Try.prog 58 #[.string s] w fun e w' => e = .returned (.tuple #[.agg (dcells n ms), .int .i64 0]) ∧ Below w.heap.size w w' := by
  have hl := Lib.hid (parse_len _ _ _ h)
  have hc := Lib.hid (fun w => (readS_any s w hm).mono fun e w' (hd : DotPost s w e w') => show e = .returned (.tuple #[.agg (dcells n ms), .bool true]) ∧ Below w.heap.size w w' from ⟨by rw [hd.1, h]; rfl, hd.2⟩)
  clear h hm
  go_enter Try.func58, Try.ntmps58
  go_wp2_with (first
    | (go_at_call 102; ((with_reducible refine (hc.out _).mono ?_); rintro e w1 ⟨rfl, hB1⟩))
    | (refine wpList_load_row rfl 26 _ rfl _ rfl 26 _ (0, 0) _ (hO2) Try.underlying26 rfl (row26 (d17 _ _ (hl.out))) ?_)
    | (refine wpList_store_own rfl 26 _ _ rfl _ _ rfl rfl 26 _ (((Own.new w _ _).below hB1 (by simp)).alloc _ |>.only hN2 (Nat.ne_of_lt (Nat.lt_of_lt_of_le (by simp) hB1.size))) (row26 (d17 _ _ (hl.out))) (z_eq (d17 _ _ hl.out)) (dcells_one _ _) ?_; intro w3 hO3 hN3)
    | (refine wpList_store_own rfl 26 _ _ rfl _ _ rfl rfl 26 _ (Own.new w1 _ _) (row26 (d17 _ _ (hl.out))) (z_eq (d17 _ _ hl.out)) (dcells_one _ _) ?_; intro w2 hO2 hN2))
  refine bodyPost_ret (v := .tuple #[.agg (dcells n ms), .int .i64 0]) (results_row_tmp rfl _ _ _ _ _ (0, 0) _ rfl (hO3) Try.underlying26 rfl (row26 (d17 _ _ (hl.out))) _ rfl) rfl (⟨rfl, ?_⟩)
  have b0 : Below w.heap.size w (w.alloc (.cells zcells 26)) := (Below.refl _ _).alloc (Nat.le_refl _) _
  have b1 : Below w.heap.size w w1 := b0.trans (hB1.mono b0.size)
  have b2 : Below w.heap.size w w2 := (b1.alloc b1.size _).trans (hN2.below.mono b1.size)
  exact b2.trans (hN3.below.mono (Nat.le_refl _))
set_option maxRecDepth 100000 in
theorem parseS_none (s : ByteArray) (w : World) (hm : s.size ≤ maxLen) (h : parse s.data.toList = none) :
    Calls Try.prog 58 #[.string s] w fun e w' => e = .returned (.tuple #[.agg zcells, .int .i64 6]) ∧ Below w.heap.size w w' := by
  have hc := Lib.hid (fun w => (readS_any s w hm).mono fun e w' (hd : DotPost s w e w') => show e = .returned (.tuple #[.agg zcells, .bool false]) ∧ Below w.heap.size w w' from ⟨by rw [hd.1, h]; rfl, hd.2⟩)
  clear h hm
  go_enter Try.func58, Try.ntmps58
  go_wp2_with (first
    | (go_at_call 102; ((with_reducible refine (hc.out _).mono ?_); rintro e w1 ⟨rfl, hB1⟩))
    | (refine wpList_build_of rfl 26 #[] rfl zcells ?_ ?_; (exact built26nil))
    | (refine wpList_store_own rfl 26 _ _ rfl _ _ rfl rfl 26 _ (((Own.new w _ _).below hB1 (by simp)).alloc _ |>.only hN2 (Nat.ne_of_lt (Nat.lt_of_lt_of_le (by simp) hB1.size))) (row26 (d17 _ _ (zlen))) (rfl) (dcells_one _ _) ?_; intro w3 hO3 hN3)
    | (refine wpList_store_own rfl 26 _ _ rfl _ _ rfl rfl 26 _ (Own.new w1 _ _) (row26 (d17 _ _ (zlen))) (rfl) (dcells_one _ _) ?_; intro w2 hO2 hN2))
  refine bodyPost_ret (v := .tuple #[.agg (zcells), .int .i64 6]) (results_row_tmp rfl _ _ _ _ _ (0, 0) _ rfl (hO3) Try.underlying26 rfl (row26 (d17 _ _ (zlen))) _ rfl) rfl (⟨rfl, ?_⟩)
  have b0 : Below w.heap.size w (w.alloc (.cells zcells 26)) := (Below.refl _ _).alloc (Nat.le_refl _) _
  have b1 : Below w.heap.size w w1 := b0.trans (hB1.mono b0.size)
  have b2 : Below w.heap.size w w2 := (b1.alloc b1.size _).trans (hN2.below.mono b1.size)
  exact b2.trans (hN3.below.mono (Nat.le_refl _))
set_option maxRecDepth 100000 in
theorem ParseDiagram_walk (s : ByteArray) (w : World) (h20 : s.size ≤ 1048576) (m c : Int) (ms : List Int) (hl : ms.length = 16)
    (hS : ∀ w, Calls Try.prog 58 #[.string s] w fun e w' => e = .returned (.tuple #[.agg (dcells m ms), .int .i64 c]) ∧ Below w.heap.size w w')
    (hI : ∀ w, Calls Try.prog 48 #[.string s] w fun e w' => e = .returned (.tuple #[.agg (dcells m ms), .int .i64 c]) ∧ Below w.heap.size w w') :
    Calls Try.prog 8 #[.string s] w fun e w' => e = .returned (.bool true) ∧ Below w.heap.size w w' := by
  have hh := Lib.hid hl
  have hS' := Lib.hid hS
  have hI' := Lib.hid hI
  clear hl hS hI
  go_enter Try.func8, Try.ntmps8
  go_wp2_with (first
    | (go_at_call 58; ((with_reducible refine (hS'.out _).mono ?_); rintro e w1 ⟨rfl, hB1⟩))
    | (go_at_call 48; ((with_reducible refine (hI'.out _).mono ?_); rintro e w3 ⟨rfl, hB3⟩))
    | (refine wpList_load_row rfl 26 _ rfl _ rfl 26 _ (0, 0) _ (hO4) Try.underlying26 rfl (row26 (d17 _ _ (hh.out))) ?_)
    | (refine wpList_load_row rfl 26 _ rfl _ rfl 26 _ (0, 0) _ (((hO2.below hB3 hO2.lt).alloc _).only hN4 (Nat.ne_of_lt (Nat.lt_of_lt_of_le hO2.lt hB3.size))) Try.underlying26 rfl (row26 (d17 _ _ (hh.out))) ?_)
    | (go_at_call 60; refine (eqD_same m ms hh.out _).mono ?_; rintro e w5 ⟨rfl, hB5⟩)
    | (refine wpList_store_own rfl 26 _ _ rfl _ _ rfl rfl 26 _ (Own.new w3 _ _) (row26 (d17 _ _ (hh.out))) (z_eq (d17 _ _ hh.out)) (dcells_one _ _) ?_; intro w4 hO4 hN4)
    | (refine wpList_store_own rfl 26 _ _ rfl _ _ rfl rfl 26 _ (Own.new w1 _ _) (row26 (d17 _ _ (hh.out))) (z_eq (d17 _ _ hh.out)) (dcells_one _ _) ?_; intro w2 hO2 hN2))
  go_ret
  refine ⟨rfl, ?_⟩
  have b2 : Below w.heap.size w w2 := (hB1.alloc hB1.size _).trans (hN2.below.mono hB1.size)
  have b3 : Below w.heap.size w w3 := b2.trans (hB3.mono b2.size)
  have b4 : Below w.heap.size w w4 := (b3.alloc b3.size _).trans (hN4.below.mono b3.size)
  exact b4.trans (hB5.mono b4.size)
set_option maxRecDepth 100000 in
theorem parse_big (s : ByteArray) (w : World) (hm : s.size ≤ maxLen) (h : 1048576 < s.size) : Calls Try.prog 8 #[.string s] w fun e w' => e = .returned (.bool true) ∧ Below w.heap.size w w' := by
  unfold maxLen at hm
  go_enter Try.func8, Try.ntmps8
  go_wp2
  go_ret
  exact ⟨rfl, Below.refl _ _⟩
theorem parse_law (s : ByteArray) (w : World) (hm : s.size ≤ maxLen) : Calls Try.prog 8 #[.string s] w fun e w' => e = .returned (.bool true) ∧ Below w.heap.size w w' := by
  by_cases h : s.size ≤ 1048576
  · cases hp : parse s.data.toList with
    | none => exact ParseDiagram_walk s w h 0 6 _ zlen (fun w => parseS_none s w hm hp) (fun w => parseI_none s w hm hp)
    | some q =>
      obtain ⟨n, ms⟩ := q
      exact ParseDiagram_walk s w h n 0 ms (parse_len _ _ _ hp) (fun w => parseS_some s w hm n ms hp) (fun w => parseI_some s w hm n ms hp)
  · exact parse_big s w hm (by omega)
end Go.Proofs.Ytfbocodkelmemaa
