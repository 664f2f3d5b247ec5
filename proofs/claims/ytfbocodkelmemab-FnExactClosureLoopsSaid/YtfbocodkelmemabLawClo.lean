/- The law of ClosureLoops. -/
import Derived.Test.YtfbocodkelmemabClo
namespace Go.Proofs.Ytfbocodkelmemab
open Go.RowKit
set_option maxRecDepth 100000 in
theorem ClosureLoopsI_bad (n : Int) (ms : List Int) (hms : ms.length = 16) (hb : Bytes ms) (hd : isD n ms = false) (w : World) :
    Calls Try.prog 16 #[.agg (dcells n ms)] w fun e w' => e = .returned (.tuple #[.int .i64 0, .int .i64 1]) ∧ Below w.heap.size w w' := by
  have hl := Lib.hid hms
  have hc := Lib.hid (fun w => isI_any n ms hms hb w)
  rw [hd] at hc
  clear hms hb hd
  go_enter Try.func16, Try.ntmps16
  go_wp2_with (first
    | (refine wpList_load_row rfl 25 _ rfl _ rfl 25 _ (0, 0) _ (Own.new _ _ _) Try.underlying25 rfl (row26 (d17 _ _ (hl.out))) ?_)
    | (go_at_call 30; ((with_reducible refine (hc.out _).mono ?_); rintro e w1 ⟨rfl, hB1⟩)))
  go_ret2
  have b0 : Below w.heap.size w (w.alloc (.cells (dcells n ms) 25)) := (Below.refl _ _).alloc (Nat.le_refl _) _
  exact ⟨rfl, b0.trans (hB1.mono b0.size)⟩
set_option maxRecDepth 100000 in
theorem ClosureLoopsS_bad (n : Int) (ms : List Int) (hms : ms.length = 16) (hb : Bytes ms) (hd : isD n ms = false) (w : World) :
    Calls Try.prog 15 #[.agg (dcells n ms)] w fun e w' => e = .returned (.tuple #[.int .i64 0, .int .i64 1]) ∧ Below w.heap.size w w' := by
  have hl := Lib.hid hms
  have hc := Lib.hid (fun w => l01Is_dec n ms hms hb w)
  rw [hd] at hc
  clear hms hb hd
  go_enter Try.func15, Try.ntmps15
  go_wp2_with (first
    | (refine wpList_load_row rfl 25 _ rfl _ rfl 25 _ (0, 0) _ (Own.new _ _ _) Try.underlying25 rfl (row26 (d17 _ _ (hl.out))) ?_)
    | (go_at_call 26; ((with_reducible refine (hc.out _).mono ?_); rintro e w1 ⟨rfl, hB1⟩)))
  go_ret2
  have b0 : Below w.heap.size w (w.alloc (.cells (dcells n ms) 25)) := (Below.refl _ _).alloc (Nat.le_refl _) _
  exact ⟨rfl, b0.trans (hB1.mono b0.size)⟩
set_option maxRecDepth 100000 in
theorem ClosureLoopsS_ok (n : Int) (ms : List Int) (hms : ms.length = 16) (hb : Bytes ms) (hd : isD n ms = true) (w : World) :
    Calls Try.prog 15 #[.agg (dcells n ms)] w fun e w' => e = .returned (.tuple #[.int .i64 ((cloL n ms (2 * n).toNat).2), .int .i64 0]) ∧ Below w.heap.size w w' := by
  have hl := Lib.hid hms
  have hn := (((isD_iff n ms hms hb).1 hd).1)
  have hc := Lib.hid (fun w => l01Is_dec n ms hms hb w)
  have hf := Lib.hid (fun w => cloS_any n ms hms hb ((isD_iff n ms hms hb).1 hd) w)
  rw [hd] at hc
  obtain ⟨v, hv⟩ : ∃ v, (cloL n ms (2 * n).toNat).2 = v := ⟨_, rfl⟩
  rw [hv] at hf ⊢
  clear hms hb hd hv
  go_enter Try.func15, Try.ntmps15
  go_wp2_with (first
    | (refine wpList_load_row rfl 25 _ rfl _ rfl 25 _ (0, 0) _ (Own.new _ _ _) Try.underlying25 rfl (row26 (d17 _ _ (hl.out))) ?_)
    | (go_at_call 26; ((with_reducible refine (hc.out _).mono ?_); rintro e w1 ⟨rfl, hB1⟩))
    | (refine wpList_load_row rfl 25 _ rfl _ rfl 25 _ (0, 0) _ ((Own.new _ _ _).below hB1 (by simp)) Try.underlying25 rfl (row26 (d17 _ _ (hl.out))) ?_)
    | (go_at_call 38; ((with_reducible refine (hf.out _).mono ?_); rintro e w2 ⟨rfl, hB2⟩)))
  go_ret2
  have b0 : Below w.heap.size w (w.alloc (.cells (dcells n ms) 25)) := (Below.refl _ _).alloc (Nat.le_refl _) _
  have b1 := b0.trans (hB1.mono b0.size)
  exact ⟨rfl, b1.trans (hB2.mono b1.size)⟩
set_option maxRecDepth 100000 in
theorem ClosureLoopsI_ok (n : Int) (ms : List Int) (hms : ms.length = 16) (hb : Bytes ms) (hd : isD n ms = true) (w : World) :
    Calls Try.prog 16 #[.agg (dcells n ms)] w fun e w' => e = .returned (.tuple #[.int .i64 ((cloL n ms (2 * n).toNat).2), .int .i64 0]) ∧ Below w.heap.size w w' := by
  have hl := Lib.hid hms
  have hn := (((isD_iff n ms hms hb).1 hd).1)
  have hc := Lib.hid (fun w => isI_any n ms hms hb w)
  have hf := Lib.hid (fun w => cloI_any n ms hms hb ((isD_iff n ms hms hb).1 hd) w)
  rw [hd] at hc
  obtain ⟨v, hv⟩ : ∃ v, (cloL n ms (2 * n).toNat).2 = v := ⟨_, rfl⟩
  rw [hv] at hf ⊢
  clear hms hb hd hv
  go_enter Try.func16, Try.ntmps16
  go_wp2_with (first
    | (refine wpList_load_row rfl 25 _ rfl _ rfl 25 _ (0, 0) _ (Own.new _ _ _) Try.underlying25 rfl (row26 (d17 _ _ (hl.out))) ?_)
    | (go_at_call 30; ((with_reducible refine (hc.out _).mono ?_); rintro e w1 ⟨rfl, hB1⟩))
    | (refine wpList_load_row rfl 25 _ rfl _ rfl 25 _ (0, 0) _ ((Own.new _ _ _).below hB1 (by simp)) Try.underlying25 rfl (row26 (d17 _ _ (hl.out))) ?_)
    | (go_at_call 39; ((with_reducible refine (hf.out _).mono ?_); rintro e w2 ⟨rfl, hB2⟩)))
  go_ret2
  have b0 : Below w.heap.size w (w.alloc (.cells (dcells n ms) 25)) := (Below.refl _ _).alloc (Nat.le_refl _) _
  have b1 := b0.trans (hB1.mono b0.size)
  exact ⟨rfl, b1.trans (hB2.mono b1.size)⟩
set_option maxRecDepth 100000 in
theorem ClosureLoops_walk (n : Int) (ms : List Int) (hms : ms.length = 16) (w : World) (a c : Int)
    (hS : ∀ w, Calls Try.prog 15 #[.agg (dcells n ms)] w fun e w' => e = .returned (.tuple #[.int .i64 a, .int .i64 c]) ∧ Below w.heap.size w w')
    (hI : ∀ w, Calls Try.prog 16 #[.agg (dcells n ms)] w fun e w' => e = .returned (.tuple #[.int .i64 a, .int .i64 c]) ∧ Below w.heap.size w w') :
    Calls Try.prog 5 #[.agg (dcells n ms)] w fun e w' => e = .returned (.bool true) ∧ Below w.heap.size w w' := by
  have hl := Lib.hid hms
  have hS' := Lib.hid hS
  have hI' := Lib.hid hI
  clear hms hS hI
  go_enter Try.func5, Try.ntmps5
  go_wp2_with (first
    | (refine wpList_load_row rfl 24 _ rfl _ rfl 24 _ (0, 0) _ (Own.new _ _ _) Try.underlying24 rfl (row50 (d17 _ _ (hl.out))) ?_)
    | (go_at_call 15; ((with_reducible refine (hS'.out _).mono ?_); rintro e w2 ⟨rfl, hB2⟩))
    | (go_at_call 16; ((with_reducible refine (hI'.out _).mono ?_); rintro e w4 ⟨rfl, hB4⟩))
    | (go_at_call 10; ((with_reducible refine (toD_any n ms hl.out w2).mono ?_); rintro e w3 ⟨rfl, hB3⟩))
    | (go_at_call 10; ((with_reducible refine (toD_any n ms hl.out _).mono ?_); rintro e w1 ⟨rfl, hB1⟩))
    | (refine wpList_load_row rfl 24 _ rfl _ rfl 24 _ (0, 0) _ (((Own.new _ _ _).below hB1 (by simp)).below hB2 (Nat.lt_of_lt_of_le (by simp) hB1.size)) Try.underlying24 rfl (row50 (d17 _ _ (hl.out))) ?_))
  go_ret
  have b0 : Below w.heap.size w (w.alloc (.cells (dcells n ms) 24)) := (Below.refl _ _).alloc (Nat.le_refl _) _
  have b1 := b0.trans (hB1.mono b0.size)
  have b2 := b1.trans (hB2.mono b1.size)
  have b3 := b2.trans (hB3.mono b2.size)
  exact ⟨rfl, b3.trans (hB4.mono b3.size)⟩
theorem clo_law (n : Int) (ms : List Int) (hms : ms.length = 16) (hb : Bytes ms) (w : World) :
    Calls Try.prog 5 #[.agg (dcells n ms)] w fun e w' => e = .returned (.bool true) ∧ Below w.heap.size w w' := by
  cases hd : isD n ms with
  | true => exact ClosureLoops_walk n ms hms w _ 0 (ClosureLoopsS_ok n ms hms hb hd) (ClosureLoopsI_ok n ms hms hb hd)
  | false => exact ClosureLoops_walk n ms hms w 0 1 (ClosureLoopsS_bad n ms hms hb hd) (ClosureLoopsI_bad n ms hms hb hd)
end Go.Proofs.Ytfbocodkelmemab
