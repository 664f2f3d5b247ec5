/- The laws of UpperHalf and LowerHalf. -/
import Derived.Test.YtonlbelcpdfjhaaHalfS
import Derived.Test.YtonlbelcpdfjhaaLawD
namespace Go.Proofs.Ytonlbelcpdfjhaa
open Go.RowKit
set_option maxRecDepth 100000 in
theorem UpperHalfI_bad (n : Int) (ms : List Int) (hms : ms.length = 16) (hb : Bytes ms) (hd : isD n ms = false) (w : World) :
    Calls Try.prog 16 #[.agg (dcells n ms)] w fun e w' => e = .returned (.tuple #[.string ⟨#[]⟩, .int .i64 1]) ∧ Below w.heap.size w w' := by
  have hl := Lib.hid hms
  have hc := Lib.hid (fun w => isI_any n ms hms hb w)
  rw [hd] at hc
  clear hms hb hd
  go_enter Try.func16, Try.ntmps16
  go_wp2_with (first
    | (refine wpList_load_row rfl 35 _ rfl _ rfl 35 _ (0, 0) _ (Own.new _ _ _) Try.underlying35 rfl (row26 (d17 _ _ (hl.out))) ?_)
    | (go_at_call 28; ((with_reducible refine (hc.out _).mono ?_); rintro e w1 ⟨rfl, hB1⟩)))
  go_ret2
  have b0 : Below w.heap.size w (w.alloc (.cells (dcells n ms) 35)) := (Below.refl _ _).alloc (Nat.le_refl _) _
  exact ⟨rfl, b0.trans (hB1.mono b0.size)⟩
set_option maxRecDepth 100000 in
theorem UpperHalfS_bad (n : Int) (ms : List Int) (hms : ms.length = 16) (hb : Bytes ms) (hd : isD n ms = false) (w : World) :
    Calls Try.prog 14 #[.agg (dcells n ms)] w fun e w' => e = .returned (.tuple #[.string ⟨#[]⟩, .int .i64 1]) ∧ Below w.heap.size w w' := by
  have hl := Lib.hid hms
  have hc := Lib.hid (fun w => l01Is_dec n ms hms hb w)
  rw [hd] at hc
  clear hms hb hd
  go_enter Try.func14, Try.ntmps14
  go_wp2_with (first
    | (refine wpList_load_row rfl 35 _ rfl _ rfl 35 _ (0, 0) _ (Own.new _ _ _) Try.underlying35 rfl (row26 (d17 _ _ (hl.out))) ?_)
    | (go_at_call 25; ((with_reducible refine (hc.out _).mono ?_); rintro e w1 ⟨rfl, hB1⟩)))
  go_ret2
  have b0 : Below w.heap.size w (w.alloc (.cells (dcells n ms) 35)) := (Below.refl _ _).alloc (Nat.le_refl _) _
  exact ⟨rfl, b0.trans (hB1.mono b0.size)⟩
set_option maxRecDepth 100000 in
theorem UpperHalfS_ok (n : Int) (ms : List Int) (hms : ms.length = 16) (hb : Bytes ms) (hd : isD n ms = true) (w : World) :
    Calls Try.prog 14 #[.agg (dcells n ms)] w fun e w' => e = .returned (.tuple #[.string (halfB n 0 ms), .int .i64 0]) ∧ Below w.heap.size w w' := by
  have hl := Lib.hid hms
  have hn := (((isD_iff n ms hms hb).1 hd).1)
  have hc := Lib.hid (fun w => l01Is_dec n ms hms hb w)
  have hf := Lib.hid (fun w => halfS_up n ms hms hb w hn.1 hn.2)
  rw [hd] at hc
  obtain ⟨v, hv⟩ : ∃ v, halfB n 0 ms = v := ⟨_, rfl⟩
  rw [hv] at hf ⊢
  clear hms hb hd hv
  go_enter Try.func14, Try.ntmps14
  go_wp2_with (first
    | (refine wpList_load_row rfl 35 _ rfl _ rfl 35 _ (0, 0) _ (Own.new _ _ _) Try.underlying35 rfl (row26 (d17 _ _ (hl.out))) ?_)
    | (go_at_call 25; ((with_reducible refine (hc.out _).mono ?_); rintro e w1 ⟨rfl, hB1⟩))
    | (refine wpList_load_row rfl 35 _ rfl _ rfl 35 _ (0, 0) _ ((Own.new _ _ _).below hB1 (by simp)) Try.underlying35 rfl (row26 (d17 _ _ (hl.out))) ?_)
    | (go_at_call 26; ((with_reducible refine (hf.out _).mono ?_); rintro e w2 ⟨rfl, hB2⟩)))
  go_ret2
  have b0 : Below w.heap.size w (w.alloc (.cells (dcells n ms) 35)) := (Below.refl _ _).alloc (Nat.le_refl _) _
  have b1 := b0.trans (hB1.mono b0.size)
  exact ⟨rfl, b1.trans (hB2.mono b1.size)⟩
set_option maxRecDepth 100000 in
theorem UpperHalfI_ok (n : Int) (ms : List Int) (hms : ms.length = 16) (hb : Bytes ms) (hd : isD n ms = true) (w : World) :
    Calls Try.prog 16 #[.agg (dcells n ms)] w fun e w' => e = .returned (.tuple #[.string (halfB n 0 ms), .int .i64 0]) ∧ Below w.heap.size w w' := by
  have hl := Lib.hid hms
  have hn := (((isD_iff n ms hms hb).1 hd).1)
  have hc := Lib.hid (fun w => isI_any n ms hms hb w)
  have hf := Lib.hid (fun w => halfI_any n 0 ms hms hb w hn.1 hn.2 (.inl rfl))
  rw [hd] at hc
  obtain ⟨v, hv⟩ : ∃ v, halfB n 0 ms = v := ⟨_, rfl⟩
  rw [hv] at hf ⊢
  clear hms hb hd hv
  go_enter Try.func16, Try.ntmps16
  go_wp2_with (first
    | (refine wpList_load_row rfl 35 _ rfl _ rfl 35 _ (0, 0) _ (Own.new _ _ _) Try.underlying35 rfl (row26 (d17 _ _ (hl.out))) ?_)
    | (go_at_call 28; ((with_reducible refine (hc.out _).mono ?_); rintro e w1 ⟨rfl, hB1⟩))
    | (refine wpList_load_row rfl 35 _ rfl _ rfl 35 _ (0, 0) _ ((Own.new _ _ _).below hB1 (by simp)) Try.underlying35 rfl (row26 (d17 _ _ (hl.out))) ?_)
    | (go_at_call 29; ((with_reducible refine (hf.out _).mono ?_); rintro e w2 ⟨rfl, hB2⟩)))
  go_ret2
  have b0 : Below w.heap.size w (w.alloc (.cells (dcells n ms) 35)) := (Below.refl _ _).alloc (Nat.le_refl _) _
  have b1 := b0.trans (hB1.mono b0.size)
  exact ⟨rfl, b1.trans (hB2.mono b1.size)⟩
set_option maxRecDepth 100000 in
theorem UpperHalf_walk (n : Int) (ms : List Int) (hms : ms.length = 16) (w : World) (a : ByteArray) (c : Int)
    (hS : ∀ w, Calls Try.prog 14 #[.agg (dcells n ms)] w fun e w' => e = .returned (.tuple #[.string a, .int .i64 c]) ∧ Below w.heap.size w w')
    (hI : ∀ w, Calls Try.prog 16 #[.agg (dcells n ms)] w fun e w' => e = .returned (.tuple #[.string a, .int .i64 c]) ∧ Below w.heap.size w w') :
    Calls Try.prog 5 #[.agg (dcells n ms)] w fun e w' => e = .returned (.bool true) ∧ Below w.heap.size w w' := by
  have hl := Lib.hid hms
  have hS' := Lib.hid hS
  have hI' := Lib.hid hI
  clear hms hS hI
  go_enter Try.func5, Try.ntmps5
  go_wp2_with (first
    | (refine wpList_load_row rfl 32 _ rfl _ rfl 32 _ (0, 0) _ (Own.new _ _ _) Try.underlying32 rfl (row50 (d17 _ _ (hl.out))) ?_)
    | (go_at_call 14; ((with_reducible refine (hS'.out _).mono ?_); rintro e w2 ⟨rfl, hB2⟩))
    | (go_at_call 16; ((with_reducible refine (hI'.out _).mono ?_); rintro e w4 ⟨rfl, hB4⟩))
    | (go_at_call 15; ((with_reducible refine (toD_any n ms hl.out w2).mono ?_); rintro e w3 ⟨rfl, hB3⟩))
    | (go_at_call 15; ((with_reducible refine (toD_any n ms hl.out _).mono ?_); rintro e w1 ⟨rfl, hB1⟩))
    | (refine wpList_load_row rfl 32 _ rfl _ rfl 32 _ (0, 0) _ (((Own.new _ _ _).below hB1 (by simp)).below hB2 (Nat.lt_of_lt_of_le (by simp) hB1.size)) Try.underlying32 rfl (row50 (d17 _ _ (hl.out))) ?_))
  go_ret
  have b0 : Below w.heap.size w (w.alloc (.cells (dcells n ms) 32)) := (Below.refl _ _).alloc (Nat.le_refl _) _
  have b1 := b0.trans (hB1.mono b0.size)
  have b2 := b1.trans (hB2.mono b1.size)
  have b3 := b2.trans (hB3.mono b2.size)
  exact ⟨rfl, b3.trans (hB4.mono b3.size)⟩
theorem upper_law (n : Int) (ms : List Int) (hms : ms.length = 16) (hb : Bytes ms) (w : World) :
    Calls Try.prog 5 #[.agg (dcells n ms)] w fun e w' => e = .returned (.bool true) ∧ Below w.heap.size w w' := by
  cases hd : isD n ms with
  | true => exact UpperHalf_walk n ms hms w _ 0 (UpperHalfS_ok n ms hms hb hd) (UpperHalfI_ok n ms hms hb hd)
  | false => exact UpperHalf_walk n ms hms w _ 1 (UpperHalfS_bad n ms hms hb hd) (UpperHalfI_bad n ms hms hb hd)
set_option maxRecDepth 100000 in
theorem LowerHalfI_bad (n : Int) (ms : List Int) (hms : ms.length = 16) (hb : Bytes ms) (hd : isD n ms = false) (w : World) :
    Calls Try.prog 18 #[.agg (dcells n ms)] w fun e w' => e = .returned (.tuple #[.string ⟨#[]⟩, .int .i64 1]) ∧ Below w.heap.size w w' := by
  have hl := Lib.hid hms
  have hc := Lib.hid (fun w => isI_any n ms hms hb w)
  rw [hd] at hc
  clear hms hb hd
  go_enter Try.func18, Try.ntmps18
  go_wp2_with (first
    | (refine wpList_load_row rfl 35 _ rfl _ rfl 35 _ (0, 0) _ (Own.new _ _ _) Try.underlying35 rfl (row26 (d17 _ _ (hl.out))) ?_)
    | (go_at_call 28; ((with_reducible refine (hc.out _).mono ?_); rintro e w1 ⟨rfl, hB1⟩)))
  go_ret2
  have b0 : Below w.heap.size w (w.alloc (.cells (dcells n ms) 35)) := (Below.refl _ _).alloc (Nat.le_refl _) _
  exact ⟨rfl, b0.trans (hB1.mono b0.size)⟩
set_option maxRecDepth 100000 in
theorem LowerHalfS_bad (n : Int) (ms : List Int) (hms : ms.length = 16) (hb : Bytes ms) (hd : isD n ms = false) (w : World) :
    Calls Try.prog 17 #[.agg (dcells n ms)] w fun e w' => e = .returned (.tuple #[.string ⟨#[]⟩, .int .i64 1]) ∧ Below w.heap.size w w' := by
  have hl := Lib.hid hms
  have hc := Lib.hid (fun w => l01Is_dec n ms hms hb w)
  rw [hd] at hc
  clear hms hb hd
  go_enter Try.func17, Try.ntmps17
  go_wp2_with (first
    | (refine wpList_load_row rfl 35 _ rfl _ rfl 35 _ (0, 0) _ (Own.new _ _ _) Try.underlying35 rfl (row26 (d17 _ _ (hl.out))) ?_)
    | (go_at_call 25; ((with_reducible refine (hc.out _).mono ?_); rintro e w1 ⟨rfl, hB1⟩)))
  go_ret2
  have b0 : Below w.heap.size w (w.alloc (.cells (dcells n ms) 35)) := (Below.refl _ _).alloc (Nat.le_refl _) _
  exact ⟨rfl, b0.trans (hB1.mono b0.size)⟩
set_option maxRecDepth 100000 in
theorem LowerHalfS_ok (n : Int) (ms : List Int) (hms : ms.length = 16) (hb : Bytes ms) (hd : isD n ms = true) (w : World) :
    Calls Try.prog 17 #[.agg (dcells n ms)] w fun e w' => e = .returned (.tuple #[.string (halfB n n ms), .int .i64 0]) ∧ Below w.heap.size w w' := by
  have hl := Lib.hid hms
  have hn := (((isD_iff n ms hms hb).1 hd).1)
  have hc := Lib.hid (fun w => l01Is_dec n ms hms hb w)
  have hf := Lib.hid (fun w => halfS_lo n ms hms hb w hn.1 hn.2)
  rw [hd] at hc
  obtain ⟨v, hv⟩ : ∃ v, halfB n n ms = v := ⟨_, rfl⟩
  rw [hv] at hf ⊢
  clear hms hb hd hv
  go_enter Try.func17, Try.ntmps17
  go_wp2_with (first
    | (refine wpList_load_row rfl 35 _ rfl _ rfl 35 _ (0, 0) _ (Own.new _ _ _) Try.underlying35 rfl (row26 (d17 _ _ (hl.out))) ?_)
    | (go_at_call 25; ((with_reducible refine (hc.out _).mono ?_); rintro e w1 ⟨rfl, hB1⟩))
    | (refine wpList_load_row rfl 35 _ rfl _ rfl 35 _ (0, 0) _ ((Own.new _ _ _).below hB1 (by simp)) Try.underlying35 rfl (row26 (d17 _ _ (hl.out))) ?_)
    | (go_at_call 26; ((with_reducible refine (hf.out _).mono ?_); rintro e w2 ⟨rfl, hB2⟩)))
  go_ret2
  have b0 : Below w.heap.size w (w.alloc (.cells (dcells n ms) 35)) := (Below.refl _ _).alloc (Nat.le_refl _) _
  have b1 := b0.trans (hB1.mono b0.size)
  exact ⟨rfl, b1.trans (hB2.mono b1.size)⟩
set_option maxRecDepth 100000 in
theorem LowerHalfI_ok (n : Int) (ms : List Int) (hms : ms.length = 16) (hb : Bytes ms) (hd : isD n ms = true) (w : World) :
    Calls Try.prog 18 #[.agg (dcells n ms)] w fun e w' => e = .returned (.tuple #[.string (halfB n n ms), .int .i64 0]) ∧ Below w.heap.size w w' := by
  have hl := Lib.hid hms
  have hn := (((isD_iff n ms hms hb).1 hd).1)
  have hc := Lib.hid (fun w => isI_any n ms hms hb w)
  have hf := Lib.hid (fun w => halfI_any n n ms hms hb w hn.1 hn.2 (.inr rfl))
  rw [hd] at hc
  obtain ⟨v, hv⟩ : ∃ v, halfB n n ms = v := ⟨_, rfl⟩
  rw [hv] at hf ⊢
  clear hms hb hd hv
  go_enter Try.func18, Try.ntmps18
  go_wp2_with (first
    | (refine wpList_load_row rfl 35 _ rfl _ rfl 35 _ (0, 0) _ (Own.new _ _ _) Try.underlying35 rfl (row26 (d17 _ _ (hl.out))) ?_)
    | ((go_at_call 28; ((with_reducible refine (hc.out _).mono ?_); rintro e w1 ⟨rfl, hB1⟩)); have k0 := ((Own.new w (dcells n ms) 35).below hB1 (by simp)).cell 0; rw [dcells_zero] at k0)
    | (refine wpList_load_row rfl 35 _ rfl _ rfl 35 _ (0, 0) _ ((Own.new _ _ _).below hB1 (by simp)) Try.underlying35 rfl (row26 (d17 _ _ (hl.out))) ?_)
    | (go_at_call 29; ((with_reducible refine (hf.out _).mono ?_); rintro e w2 ⟨rfl, hB2⟩)))
  go_ret2
  have b0 : Below w.heap.size w (w.alloc (.cells (dcells n ms) 35)) := (Below.refl _ _).alloc (Nat.le_refl _) _
  have b1 := b0.trans (hB1.mono b0.size)
  exact ⟨rfl, b1.trans (hB2.mono b1.size)⟩
set_option maxRecDepth 100000 in
theorem LowerHalf_walk (n : Int) (ms : List Int) (hms : ms.length = 16) (w : World) (a : ByteArray) (c : Int)
    (hS : ∀ w, Calls Try.prog 17 #[.agg (dcells n ms)] w fun e w' => e = .returned (.tuple #[.string a, .int .i64 c]) ∧ Below w.heap.size w w')
    (hI : ∀ w, Calls Try.prog 18 #[.agg (dcells n ms)] w fun e w' => e = .returned (.tuple #[.string a, .int .i64 c]) ∧ Below w.heap.size w w') :
    Calls Try.prog 6 #[.agg (dcells n ms)] w fun e w' => e = .returned (.bool true) ∧ Below w.heap.size w w' := by
  have hl := Lib.hid hms
  have hS' := Lib.hid hS
  have hI' := Lib.hid hI
  clear hms hS hI
  go_enter Try.func6, Try.ntmps6
  go_wp2_with (first
    | (refine wpList_load_row rfl 32 _ rfl _ rfl 32 _ (0, 0) _ (Own.new _ _ _) Try.underlying32 rfl (row50 (d17 _ _ (hl.out))) ?_)
    | (go_at_call 17; ((with_reducible refine (hS'.out _).mono ?_); rintro e w2 ⟨rfl, hB2⟩))
    | (go_at_call 18; ((with_reducible refine (hI'.out _).mono ?_); rintro e w4 ⟨rfl, hB4⟩))
    | (go_at_call 15; ((with_reducible refine (toD_any n ms hl.out w2).mono ?_); rintro e w3 ⟨rfl, hB3⟩))
    | (go_at_call 15; ((with_reducible refine (toD_any n ms hl.out _).mono ?_); rintro e w1 ⟨rfl, hB1⟩))
    | (refine wpList_load_row rfl 32 _ rfl _ rfl 32 _ (0, 0) _ (((Own.new _ _ _).below hB1 (by simp)).below hB2 (Nat.lt_of_lt_of_le (by simp) hB1.size)) Try.underlying32 rfl (row50 (d17 _ _ (hl.out))) ?_))
  go_ret
  have b0 : Below w.heap.size w (w.alloc (.cells (dcells n ms) 32)) := (Below.refl _ _).alloc (Nat.le_refl _) _
  have b1 := b0.trans (hB1.mono b0.size)
  have b2 := b1.trans (hB2.mono b1.size)
  have b3 := b2.trans (hB3.mono b2.size)
  exact ⟨rfl, b3.trans (hB4.mono b3.size)⟩
theorem lower_law (n : Int) (ms : List Int) (hms : ms.length = 16) (hb : Bytes ms) (w : World) :
    Calls Try.prog 6 #[.agg (dcells n ms)] w fun e w' => e = .returned (.bool true) ∧ Below w.heap.size w w' := by
  cases hd : isD n ms with
  | true => exact LowerHalf_walk n ms hms w _ 0 (LowerHalfS_ok n ms hms hb hd) (LowerHalfI_ok n ms hms hb hd)
  | false => exact LowerHalf_walk n ms hms w _ 1 (LowerHalfS_bad n ms hms hb hd) (LowerHalfI_bad n ms hms hb hd)
end Go.Proofs.Ytonlbelcpdfjhaa
