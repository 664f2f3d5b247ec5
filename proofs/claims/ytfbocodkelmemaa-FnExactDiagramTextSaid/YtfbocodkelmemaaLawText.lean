/- The law of DiagramText. -/
import Derived.Test.YtfbocodkelmemaaTextM
import Derived.Test.YtfbocodkelmemaaLawD
namespace Go.Proofs.Ytfbocodkelmemaa
open Go.RowKit
set_option maxRecDepth 100000 in
theorem DiagramTextI_bad (n : Int) (ms : List Int) (hms : ms.length = 16) (hb : Bytes ms) (hd : isD n ms = false) (w : World) :
    Calls Try.prog 47 #[.agg (dcells n ms)] w fun e w' => e = .returned (.tuple #[.string ⟨#[]⟩, .int .i64 1]) ∧ Below w.heap.size w w' := by
  have hl := Lib.hid hms
  have hc := Lib.hid (fun w => isI_any n ms hms hb w)
  rw [hd] at hc
  clear hms hb hd
  go_enter Try.func47, Try.ntmps47
  go_wp2_with (first
    | (refine wpList_load_row rfl 26 _ rfl _ rfl 26 _ (0, 0) _ (Own.new _ _ _) Try.underlying26 rfl (row26 (d17 _ _ (hl.out))) ?_)
    | (go_at_call 19; ((with_reducible refine (hc.out _).mono ?_); rintro e w1 ⟨rfl, hB1⟩)))
  go_ret2
  have b0 : Below w.heap.size w (w.alloc (.cells (dcells n ms) 26)) := (Below.refl _ _).alloc (Nat.le_refl _) _
  exact ⟨rfl, b0.trans (hB1.mono b0.size)⟩
set_option maxRecDepth 100000 in
theorem DiagramTextS_bad (n : Int) (ms : List Int) (hms : ms.length = 16) (hb : Bytes ms) (hd : isD n ms = false) (w : World) :
    Calls Try.prog 56 #[.agg (dcells n ms)] w fun e w' => e = .returned (.tuple #[.string ⟨#[]⟩, .int .i64 1]) ∧ Below w.heap.size w w' := by
  have hl := Lib.hid hms
  have hc := Lib.hid (fun w => l01Is_dec n ms hms hb w)
  rw [hd] at hc
  clear hms hb hd
  go_enter Try.func56, Try.ntmps56
  go_wp2_with (first
    | (refine wpList_load_row rfl 26 _ rfl _ rfl 26 _ (0, 0) _ (Own.new _ _ _) Try.underlying26 rfl (row26 (d17 _ _ (hl.out))) ?_)
    | (go_at_call 68; ((with_reducible refine (hc.out _).mono ?_); rintro e w1 ⟨rfl, hB1⟩)))
  go_ret2
  have b0 : Below w.heap.size w (w.alloc (.cells (dcells n ms) 26)) := (Below.refl _ _).alloc (Nat.le_refl _) _
  exact ⟨rfl, b0.trans (hB1.mono b0.size)⟩
set_option maxRecDepth 100000 in
theorem DiagramTextS_ok (n : Int) (ms : List Int) (hms : ms.length = 16) (hb : Bytes ms) (hd : isD n ms = true) (w : World) :
    Calls Try.prog 56 #[.agg (dcells n ms)] w fun e w' => e = .returned (.tuple #[.string (textS n ms), .int .i64 0]) ∧ Below w.heap.size w w' := by
  have hl := Lib.hid hms
  have hn := (((isD_iff n ms hms hb).1 hd).1)
  have hc := Lib.hid (fun w => l01Is_dec n ms hms hb w)
  have hf := Lib.hid (fun w => textM_any n ms hms hb w hn.1 hn.2)
  rw [hd] at hc
  obtain ⟨v, hv⟩ : ∃ v, textS n ms = v := ⟨_, rfl⟩
  rw [hv] at hf ⊢
  clear hms hb hd hv
  go_enter Try.func56, Try.ntmps56
  go_wp2_with (first
    | (refine wpList_load_row rfl 26 _ rfl _ rfl 26 _ (0, 0) _ (Own.new _ _ _) Try.underlying26 rfl (row26 (d17 _ _ (hl.out))) ?_)
    | (go_at_call 68; ((with_reducible refine (hc.out _).mono ?_); rintro e w1 ⟨rfl, hB1⟩))
    | (refine wpList_load_row rfl 26 _ rfl _ rfl 26 _ (0, 0) _ ((Own.new _ _ _).below hB1 (by simp)) Try.underlying26 rfl (row26 (d17 _ _ (hl.out))) ?_)
    | (go_at_call 98; ((with_reducible refine (hf.out _).mono ?_); rintro e w2 ⟨rfl, hB2⟩)))
  go_ret2
  have b0 : Below w.heap.size w (w.alloc (.cells (dcells n ms) 26)) := (Below.refl _ _).alloc (Nat.le_refl _) _
  have b1 := b0.trans (hB1.mono b0.size)
  exact ⟨rfl, b1.trans (hB2.mono b1.size)⟩
set_option maxRecDepth 100000 in
theorem DiagramTextI_ok (n : Int) (ms : List Int) (hms : ms.length = 16) (hb : Bytes ms) (hd : isD n ms = true) (w : World) :
    Calls Try.prog 47 #[.agg (dcells n ms)] w fun e w' => e = .returned (.tuple #[.string (textS n ms), .int .i64 0]) ∧ Below w.heap.size w w' := by
  have hl := Lib.hid hms
  have hn := (((isD_iff n ms hms hb).1 hd).1)
  have hc := Lib.hid (fun w => isI_any n ms hms hb w)
  have hf := Lib.hid (fun w => textI_any n ms hms hb w hn.1 hn.2)
  rw [hd] at hc
  obtain ⟨v, hv⟩ : ∃ v, textS n ms = v := ⟨_, rfl⟩
  rw [hv] at hf ⊢
  clear hms hb hd hv
  go_enter Try.func47, Try.ntmps47
  go_wp2_with (first
    | (refine wpList_load_row rfl 26 _ rfl _ rfl 26 _ (0, 0) _ (Own.new _ _ _) Try.underlying26 rfl (row26 (d17 _ _ (hl.out))) ?_)
    | (go_at_call 19; ((with_reducible refine (hc.out _).mono ?_); rintro e w1 ⟨rfl, hB1⟩))
    | (refine wpList_load_row rfl 26 _ rfl _ rfl 26 _ (0, 0) _ ((Own.new _ _ _).below hB1 (by simp)) Try.underlying26 rfl (row26 (d17 _ _ (hl.out))) ?_)
    | (go_at_call 67; ((with_reducible refine (hf.out _).mono ?_); rintro e w2 ⟨rfl, hB2⟩)))
  go_ret2
  have b0 : Below w.heap.size w (w.alloc (.cells (dcells n ms) 26)) := (Below.refl _ _).alloc (Nat.le_refl _) _
  have b1 := b0.trans (hB1.mono b0.size)
  exact ⟨rfl, b1.trans (hB2.mono b1.size)⟩
set_option maxRecDepth 100000 in
theorem DiagramText_walk (n : Int) (ms : List Int) (hms : ms.length = 16) (w : World) (a : ByteArray) (c : Int)
    (hS : ∀ w, Calls Try.prog 56 #[.agg (dcells n ms)] w fun e w' => e = .returned (.tuple #[.string a, .int .i64 c]) ∧ Below w.heap.size w w')
    (hI : ∀ w, Calls Try.prog 47 #[.agg (dcells n ms)] w fun e w' => e = .returned (.tuple #[.string a, .int .i64 c]) ∧ Below w.heap.size w w') :
    Calls Try.prog 7 #[.agg (dcells n ms)] w fun e w' => e = .returned (.bool true) ∧ Below w.heap.size w w' := by
  have hl := Lib.hid hms
  have hS' := Lib.hid hS
  have hI' := Lib.hid hI
  clear hms hS hI
  go_enter Try.func7, Try.ntmps7
  go_wp2_with (first
    | (refine wpList_load_row rfl 50 _ rfl _ rfl 50 _ (0, 0) _ (Own.new _ _ _) Try.underlying50 rfl (row50 (d17 _ _ (hl.out))) ?_)
    | (go_at_call 56; ((with_reducible refine (hS'.out _).mono ?_); rintro e w2 ⟨rfl, hB2⟩))
    | (go_at_call 47; ((with_reducible refine (hI'.out _).mono ?_); rintro e w4 ⟨rfl, hB4⟩))
    | (go_at_call 59; ((with_reducible refine (toD_any n ms hl.out w2).mono ?_); rintro e w3 ⟨rfl, hB3⟩))
    | (go_at_call 59; ((with_reducible refine (toD_any n ms hl.out _).mono ?_); rintro e w1 ⟨rfl, hB1⟩))
    | (refine wpList_load_row rfl 50 _ rfl _ rfl 50 _ (0, 0) _ (((Own.new _ _ _).below hB1 (by simp)).below hB2 (Nat.lt_of_lt_of_le (by simp) hB1.size)) Try.underlying50 rfl (row50 (d17 _ _ (hl.out))) ?_))
  go_ret
  have b0 : Below w.heap.size w (w.alloc (.cells (dcells n ms) 50)) := (Below.refl _ _).alloc (Nat.le_refl _) _
  have b1 := b0.trans (hB1.mono b0.size)
  have b2 := b1.trans (hB2.mono b1.size)
  have b3 := b2.trans (hB3.mono b2.size)
  exact ⟨rfl, b3.trans (hB4.mono b3.size)⟩
theorem text_law (n : Int) (ms : List Int) (hms : ms.length = 16) (hb : Bytes ms) (w : World) :
    Calls Try.prog 7 #[.agg (dcells n ms)] w fun e w' => e = .returned (.bool true) ∧ Below w.heap.size w w' := by
  cases hd : isD n ms with
  | true => exact DiagramText_walk n ms hms w _ 0 (DiagramTextS_ok n ms hms hb hd) (DiagramTextI_ok n ms hms hb hd)
  | false => exact DiagramText_walk n ms hms w _ 1 (DiagramTextS_bad n ms hms hb hd) (DiagramTextI_bad n ms hms hb hd)
end Go.Proofs.Ytfbocodkelmemaa
