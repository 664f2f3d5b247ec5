/- The law of IsDiagram. -/
import Derived.Test.YtfbocodkelmemaaDiaB
import Derived.Test.YtfbocodkelmemaaLawD
namespace Go.Proofs.Ytfbocodkelmemaa
open Go.RowKit
theorem l01Is_dec (n : Int) (ms : List Int) (hms : ms.length = 16) (hb : Bytes ms) (w : World) :
    Calls Try.prog 68 #[.agg (dcells n ms)] w fun e w' => e = .returned (.bool (isD n ms)) ∧ Below w.heap.size w w' :=
  (l01Is_any n ms hms hb w).mono fun e w' ⟨b, he, hi, hw⟩ => ⟨by rw [he, show b = isD n ms from Bool.eq_iff_iff.2 (hi.trans (isD_iff n ms hms hb).symm)], hw⟩
set_option maxRecDepth 100000 in
theorem isS_any (n : Int) (ms : List Int) (hms : ms.length = 16) (hb : Bytes ms) (w : World) :
    Calls Try.prog 20 #[.agg (dcells n ms)] w fun e w' => e = .returned (.bool (isD n ms)) ∧ Below w.heap.size w w' := by
  have hl := Lib.hid hms
  have hc := Lib.hid (fun w => l01Is_dec n ms hms hb w)
  obtain ⟨b, hbb⟩ : ∃ b, isD n ms = b := ⟨_, rfl⟩
  rw [hbb] at hc ⊢
  clear hms hb hbb
  go_enter Try.func20, Try.ntmps20
  go_wp2_with (first
    | (refine wpList_load_row rfl 26 _ rfl _ rfl 26 _ (0, 0) _ (Own.new _ _ _) Try.underlying26 rfl (row26 (d17 _ _ (hl.out))) ?_)
    | (go_at_call 68; ((with_reducible refine (hc.out _).mono ?_); rintro e w1 ⟨rfl, hB1⟩)))
  go_ret
  have b0 : Below w.heap.size w (w.alloc (.cells (dcells n ms) 26)) := (Below.refl _ _).alloc (Nat.le_refl _) _
  exact ⟨rfl, b0.trans (hB1.mono b0.size)⟩
set_option maxRecDepth 100000 in
theorem is_law (n : Int) (ms : List Int) (hms : ms.length = 16) (hb : Bytes ms) (w : World) :
    Calls Try.prog 6 #[.agg (dcells n ms)] w fun e w' => e = .returned (.bool true) ∧ Below w.heap.size w w' := by
  have hl := Lib.hid hms
  have hS := Lib.hid (fun w => isS_any n ms hms hb w)
  have hI := Lib.hid (fun w => isI_any n ms hms hb w)
  obtain ⟨b, hbb⟩ : ∃ b, isD n ms = b := ⟨_, rfl⟩
  rw [hbb] at hS hI
  clear hms hb hbb
  go_enter Try.func6, Try.ntmps6
  go_wp2_with (first
    | (refine wpList_load_row rfl 50 _ rfl _ rfl 50 _ (0, 0) _ (Own.new _ _ _) Try.underlying50 rfl (row50 (d17 _ _ (hl.out))) ?_)
    | (go_at_call 20; ((with_reducible refine (hS.out _).mono ?_); rintro e w2 ⟨rfl, hB2⟩))
    | (go_at_call 19; ((with_reducible refine (hI.out _).mono ?_); rintro e w4 ⟨rfl, hB4⟩))
    | (go_at_call 59; ((with_reducible refine (toD_any n ms hl.out w2).mono ?_); rintro e w3 ⟨rfl, hB3⟩))
    | (go_at_call 59; ((with_reducible refine (toD_any n ms hl.out _).mono ?_); rintro e w1 ⟨rfl, hB1⟩))
    | (refine wpList_load_row rfl 50 _ rfl _ rfl 50 _ (0, 0) _ (((Own.new _ _ _).below hB1 (by simp)).below hB2 (Nat.lt_of_lt_of_le (by simp) hB1.size)) Try.underlying50 rfl (row50 (d17 _ _ (hl.out))) ?_))
  go_ret
  have b0 : Below w.heap.size w (w.alloc (.cells (dcells n ms) 50)) := (Below.refl _ _).alloc (Nat.le_refl _) _
  have b1 := b0.trans (hB1.mono b0.size)
  have b2 := b1.trans (hB2.mono b1.size)
  have b3 := b2.trans (hB3.mono b2.size)
  exact ⟨rfl, b3.trans (hB4.mono b3.size)⟩
end Go.Proofs.Ytfbocodkelmemaa
