/- The law of KindsOf. -/
import Derived.Test.YtblbnlpbefmieaaPkb
import Derived.Test.YtblbnlpbefmieaaLawPw
namespace Go.Proofs.Ytblbnlpbefmieaa
open Go.RowKit
set_option linter.unusedVariables false
set_option maxRecDepth 100000 in
theorem koS_ok (N : Nat) (ms : List Int) (hms : ms.length = 8) (hb : Bytes ms) (hd : isP N ms = true) (r : Bool) (hr : r = true ↔ ¬ Crs (arZ N ms N (2 * N)) (2 * N)) (w : World) (h1 : 1 ≤ N) (h4 : N ≤ 4) :
    Calls Try.prog 13 #[.agg (dcells N ms)] w fun e w' => ∃ g, e = .returned (.tuple #[.slice (some ⟨g, 0, none⟩) 7 7, .int .i64 0]) ∧ w.heap.size ≤ g ∧ Own w' g (bcl (kl r (kd fPair (upL N ms (2 * N)) (loL N ms (2 * N)) (parN ms N)) (kd fSmall (upL N ms (2 * N)) (loL N ms (2 * N)) (parN ms N)) (kd fRook (upL N ms (2 * N)) (loL N ms (2 * N)) (parN ms N)) (kd fIdeal (upL N ms (2 * N)) (loL N ms (2 * N)) (parN ms N)) (kd fUni (upL N ms (2 * N)) (loL N ms (2 * N)) (parN ms N)))) 4 ∧ Below w.heap.size w w' := by
  have hl := Lib.hid hms
  have hcl := Lib.hid (fun w => isPS_any N ms hms hb w)
  rw [hd] at hcl
  have hk := Lib.hid (fun w => kindsS_any N ms hms (isP_nums hms hd) r hr w h1 h4)
  rw [← kl_cells] at hk
  generalize (kl r (kd fPair (upL N ms (2 * N)) (loL N ms (2 * N)) (parN ms N)) (kd fSmall (upL N ms (2 * N)) (loL N ms (2 * N)) (parN ms N)) (kd fRook (upL N ms (2 * N)) (loL N ms (2 * N)) (parN ms N)) (kd fIdeal (upL N ms (2 * N)) (loL N ms (2 * N)) (parN ms N)) (kd fUni (upL N ms (2 * N)) (loL N ms (2 * N)) (parN ms N))) = C at *
  clear hms hb hd hr
  go_enter Try.func13, Try.ntmps13
  go_wp2_with (first
    | (refine wpList_load_row rfl 28 _ rfl _ rfl 28 _ (0, 0) _ (Own.new _ _ _) Try.underlying28 rfl (rowP (d9 _ _ (hl.out))) ?_)
    | (go_at_call 79; ((with_reducible refine (hcl.out _).mono ?_); rintro e w1 ⟨rfl, hB1⟩; have hO1 : Own w1 w.heap.size (dcells N ms) 28 := (Own.new _ _ _).below hB1 (by simp); have hBw : Below w.heap.size w w1 := ((Below.refl w.heap.size w).alloc (Nat.le_refl _) _).trans (hB1.mono (by simp)); clear hB1))
    | (refine wpList_load_row rfl 28 _ rfl _ rfl 28 _ (0, 0) _ (hO1) Try.underlying28 rfl (rowP (d9 _ _ (hl.out))) ?_)
    | (go_at_call 80; ((with_reducible refine (hk.out _).mono ?_); rintro e w2 ⟨g, rfl, hg, hG, hB2⟩)))
  go_ret2
  exact ⟨g, rfl, Nat.le_trans hBw.size hg, hG, hBw.trans (hB2.mono hBw.size)⟩
set_option maxRecDepth 100000 in
theorem koS_bad (n : Int) (ms : List Int) (hms : ms.length = 8) (hb : Bytes ms) (hd : isP n ms = false) (w : World) :
    Calls Try.prog 13 #[.agg (dcells n ms)] w fun e w' => e = .returned (.tuple #[.slice none 0 0, .int .i64 1]) ∧ Below w.heap.size w w' := by
  have hl := Lib.hid hms
  have hcl := Lib.hid (fun w => isPS_any n ms hms hb w)
  rw [hd] at hcl
  clear hms hb hd
  go_enter Try.func13, Try.ntmps13
  go_wp2_with (first
    | (refine wpList_load_row rfl 28 _ rfl _ rfl 28 _ (0, 0) _ (Own.new _ _ _) Try.underlying28 rfl (rowP (d9 _ _ (hl.out))) ?_)
    | (go_at_call 79; ((with_reducible refine (hcl.out _).mono ?_); rintro e w1 ⟨rfl, hB1⟩)))
  go_ret2
  exact ⟨rfl, ((Below.refl _ _).alloc (Nat.le_refl _) _).trans (hB1.mono (by simp))⟩
set_option maxRecDepth 100000 in
theorem koI_ok (N : Nat) (ms : List Int) (hms : ms.length = 8) (hb : Bytes ms) (hd : isP N ms = true) (r : Bool) (hr : r = true ↔ ¬ Crs (arZ N ms N (2 * N)) (2 * N)) (w : World) (h1 : 1 ≤ N) (h4 : N ≤ 4) :
    Calls Try.prog 15 #[.agg (dcells N ms)] w fun e w' => ∃ g, e = .returned (.tuple #[.slice (some ⟨g, 0, none⟩) 7 7, .int .i64 0]) ∧ w.heap.size ≤ g ∧ Own w' g (bcl (kl r (kd fPair (upL N ms (2 * N)) (loL N ms (2 * N)) (parN ms N)) (kd fSmall (upL N ms (2 * N)) (loL N ms (2 * N)) (parN ms N)) (kd fRook (upL N ms (2 * N)) (loL N ms (2 * N)) (parN ms N)) (kd fIdeal (upL N ms (2 * N)) (loL N ms (2 * N)) (parN ms N)) (kd fUni (upL N ms (2 * N)) (loL N ms (2 * N)) (parN ms N)))) 4 ∧ Below w.heap.size w w' := by
  have hl := Lib.hid hms
  have hcl := Lib.hid (fun w => isPI_any N ms hms w)
  rw [hd] at hcl
  have hk := Lib.hid (fun w => kindsOfI_any N ms hms (isP_nums hms hd) r hr w h1 h4)
  rw [← kl_cells] at hk
  generalize (kl r (kd fPair (upL N ms (2 * N)) (loL N ms (2 * N)) (parN ms N)) (kd fSmall (upL N ms (2 * N)) (loL N ms (2 * N)) (parN ms N)) (kd fRook (upL N ms (2 * N)) (loL N ms (2 * N)) (parN ms N)) (kd fIdeal (upL N ms (2 * N)) (loL N ms (2 * N)) (parN ms N)) (kd fUni (upL N ms (2 * N)) (loL N ms (2 * N)) (parN ms N))) = C at *
  clear hms hb hd hr
  go_enter Try.func15, Try.ntmps15
  go_wp2_with (first
    | (refine wpList_load_row rfl 28 _ rfl _ rfl 28 _ (0, 0) _ (Own.new _ _ _) Try.underlying28 rfl (rowP (d9 _ _ (hl.out))) ?_)
    | (go_at_call 45; ((with_reducible refine (hcl.out _).mono ?_); rintro e w1 ⟨rfl, hB1⟩; have hO1 : Own w1 w.heap.size (dcells N ms) 28 := (Own.new _ _ _).below hB1 (by simp); have hBw : Below w.heap.size w w1 := ((Below.refl w.heap.size w).alloc (Nat.le_refl _) _).trans (hB1.mono (by simp)); clear hB1))
    | (refine wpList_load_row rfl 28 _ rfl _ rfl 28 _ (0, 0) _ (hO1) Try.underlying28 rfl (rowP (d9 _ _ (hl.out))) ?_)
    | (go_at_call 82; ((with_reducible refine (hk.out _).mono ?_); rintro e w2 ⟨g, rfl, hg, hG, hB2⟩)))
  go_ret2
  exact ⟨g, rfl, Nat.le_trans hBw.size hg, hG, hBw.trans (hB2.mono hBw.size)⟩
set_option maxRecDepth 100000 in
theorem koI_bad (n : Int) (ms : List Int) (hms : ms.length = 8) (hb : Bytes ms) (hd : isP n ms = false) (w : World) :
    Calls Try.prog 15 #[.agg (dcells n ms)] w fun e w' => e = .returned (.tuple #[.slice none 0 0, .int .i64 1]) ∧ Below w.heap.size w w' := by
  have hl := Lib.hid hms
  have hcl := Lib.hid (fun w => isPI_any n ms hms w)
  rw [hd] at hcl
  clear hms hb hd
  go_enter Try.func15, Try.ntmps15
  go_wp2_with (first
    | (refine wpList_load_row rfl 28 _ rfl _ rfl 28 _ (0, 0) _ (Own.new _ _ _) Try.underlying28 rfl (rowP (d9 _ _ (hl.out))) ?_)
    | (go_at_call 45; ((with_reducible refine (hcl.out _).mono ?_); rintro e w1 ⟨rfl, hB1⟩)))
  go_ret2
  exact ⟨rfl, ((Below.refl _ _).alloc (Nat.le_refl _) _).trans (hB1.mono (by simp))⟩
set_option maxRecDepth 100000 in
set_option maxHeartbeats 8000000 in
theorem KindsOf_walk (n : Int) (ms : List Int) (hms : ms.length = 8) (w : World) (x0 x1 x2 x3 x4 x5 x6 : Bool)
    (hS : ∀ w, Calls Try.prog 13 #[.agg (dcells n ms)] w fun e w' => ∃ g, e = .returned (.tuple #[.slice (some ⟨g, 0, none⟩) 7 7, .int .i64 0]) ∧ w.heap.size ≤ g ∧ Own w' g (bcl [x0, x1, x2, x3, x4, x5, x6]) 4 ∧ Below w.heap.size w w')
    (hI : ∀ w, Calls Try.prog 15 #[.agg (dcells n ms)] w fun e w' => ∃ g, e = .returned (.tuple #[.slice (some ⟨g, 0, none⟩) 7 7, .int .i64 0]) ∧ w.heap.size ≤ g ∧ Own w' g (bcl [x0, x1, x2, x3, x4, x5, x6]) 4 ∧ Below w.heap.size w w') :
    Calls Try.prog 3 #[.agg (dcells n ms)] w fun e w' => e = .returned (.bool true) ∧ Below w.heap.size w w' := by
  have hl := Lib.hid hms
  have hS' := Lib.hid hS
  have hI' := Lib.hid hI
  clear hms hS hI
  go_enter Try.func3, Try.ntmps3
  go_wp2_with (first
    | (refine wpList_load_row rfl 24 _ rfl _ rfl 24 _ (0, 0) _ (hA7) Try.underlying24 rfl (rowLP (d9 _ _ (hl.out))) ?_)
    | (refine wpList_load_row rfl 24 _ rfl _ rfl 24 _ (0, 0) _ (hA2) Try.underlying24 rfl (rowLP (d9 _ _ (hl.out))) ?_)
    | (refine wpList_load_row rfl 24 _ rfl _ rfl 24 _ (0, 0) _ (Own.new w _ _) Try.underlying24 rfl (rowLP (d9 _ _ (hl.out))) ?_)
    | (go_at_call 14; ((with_reducible refine (toP_any n ms hl.out w7).mono ?_); rintro e w8 ⟨rfl, hB8⟩; have b8 := b7.trans (hB8.mono b7.size); have hI8 := hI7.below hB8 hI7.lt; have hS8 := hS7.below hB8 hS7.lt))
    | (go_at_call 14; ((with_reducible refine (toP_any n ms hl.out w2).mono ?_); rintro e w3 ⟨rfl, hB3⟩; have b3 := b2.trans (hB3.mono b2.size); have hS3 := hS2.below hB3 hS2.lt; have hA3 := hA2.below hB3 hA2.lt; have s3 := hB3.size))
    | (go_at_call 14; ((with_reducible refine (toP_any n ms hl.out _).mono ?_); rintro e w1 ⟨rfl, hB1⟩))
    | (go_at_call 13; ((with_reducible refine (hS'.out _).mono ?_); rintro e w2 ⟨gs, rfl, hgs, hS2, hB2⟩; have hA2 : Own w2 w.heap.size (dcells n ms) 24 := ((Own.new w _ _).below hB1 (by simp)).below hB2 (Nat.lt_of_lt_of_le (by simp) hB1.size); have b2 : Below w.heap.size w w2 := (((Below.refl w.heap.size w).alloc (Nat.le_refl _) _).trans (hB1.mono (by simp))).trans (hB2.mono (Nat.le_trans (by simp) hB1.size))))
    | (go_at_call 15; ((with_reducible refine (hI'.out w8).mono ?_); rintro e w9 ⟨gh, rfl, hgh, hH9, hB9⟩; have b9 := b8.trans (hB9.mono b8.size); have hI9 := hI8.below hB9 hI8.lt; have hS9 := hS8.below hB9 hS8.lt))
    | (go_at_call 15; ((with_reducible refine (hI'.out w3).mono ?_); rintro e w4 ⟨gi, rfl, hgi, hI4, hB4⟩; have b4 := b3.trans (hB4.mono b3.size); have hS4 := hS3.below hB4 hS3.lt; have hA4 := hA3.below hB4 hA3.lt; have ne1 : gs ≠ gi := (by have := hS2.lt; omega); have ne2 : w.heap.size ≠ gi := (by have := hA2.lt; omega); have ls : w.heap.size ≤ gi := (by have := hA2.lt; omega)))
    | (go_at_call 16; ((with_reducible refine (eqB_any gh gs [x0, x1, x2, x3, x4, x5, x6] rfl w9 hH9 hS9).mono ?_); rintro e w10 ⟨rfl, hB10⟩; have b10 := b9.trans (hB10.mono b9.size); have hI10 := hI9.below hB10 hI9.lt))
    | (go_at_call 16; ((with_reducible refine (eqB_any gi gs [x0, x1, x2, x3, x4, x5, x6] rfl w4 hI4 hS4).mono ?_); rintro e w5 ⟨rfl, hB5⟩; have b5 := b4.trans (hB5.mono b4.size); have hI5 := hI4.below hB5 hI4.lt; have hS5 := hS4.below hB5 hS4.lt; have hA5 := hA4.below hB5 hA4.lt))
    | (go_at_call 17; ((with_reducible refine (markB_any gi x0 x1 x2 x3 x4 x5 x6 w5 hI5).mono ?_); rintro e w6 ⟨rfl, hI6, hN6⟩; have b6 := b5.trans (hN6.below.mono ls); have hS6 := hS5.only hN6 ne1; have hA6 := hA5.only hN6 ne2))
    | (go_at_call 18; ((with_reducible refine (heldB_any gi w10 hI10).mono ?_); rintro e w11 ⟨rfl, hB11⟩; have b11 := b10.trans (hB11.mono b10.size)))
    | (go_at_call 18; ((with_reducible refine (heldB_any gi w6 hI6).mono ?_); rintro e w7 ⟨rfl, hB7⟩; have b7 := b6.trans (hB7.mono b6.size); have hI7 := hI6.below hB7 hI6.lt; have hS7 := hS6.below hB7 hS6.lt; have hA7 := hA6.below hB7 hA6.lt)))
  go_ret
  exact ⟨rfl, b11⟩
set_option maxRecDepth 100000 in
theorem eqB_nil (w : World) : Calls Try.prog 16 #[.slice none 0 0, .slice none 0 0] w fun e w' => e = .returned (.bool true) ∧ w = w' := by
  go_enter Try.func16, Try.ntmps16
  go_wp2
  go_loopw [5] (fun i wr => i = .int .i64 0 ∧ w = wr) (fun _ _ => 0)
  case atStart => exact ⟨rfl, rfl⟩
  case round =>
    obtain ⟨rfl, rfl⟩ := hrel
    go_wp2
    go_ret
    exact ⟨rfl, rfl⟩
set_option maxRecDepth 100000 in
theorem markB_nil (w : World) : Calls Try.prog 17 #[.slice none 0 0, .int .i64 1] w fun e w' => e = .returned (.int .i64 1) ∧ w = w' := by
  go_enter Try.func17, Try.ntmps17
  go_wp2
  go_loopw [1, 5] (fun m i wr => m = .int .i64 1 ∧ i = .int .i64 0 ∧ w = wr) (fun _ _ _ => 0)
  case atStart => exact ⟨rfl, rfl, rfl⟩
  case round =>
    obtain ⟨rfl, rfl, rfl⟩ := hrel
    go_wp2
    go_ret
    exact ⟨rfl, rfl⟩
set_option maxRecDepth 100000 in
theorem heldB_nil (w : World) : Calls Try.prog 18 #[.slice none 0 0, .int .i64 1] w fun e w' => e = .returned (.int .i64 1) ∧ w = w' := by
  go_enter Try.func18, Try.ntmps18
  go_wp2
  go_loopw [1, 5] (fun m i wr => m = .int .i64 1 ∧ i = .int .i64 0 ∧ w = wr) (fun _ _ _ => 0)
  case atStart => exact ⟨rfl, rfl, rfl⟩
  case round =>
    obtain ⟨rfl, rfl, rfl⟩ := hrel
    go_wp2
    go_ret
    exact ⟨rfl, rfl⟩
set_option maxRecDepth 100000 in
set_option maxHeartbeats 8000000 in
theorem KindsOf_walk_bad (n : Int) (ms : List Int) (hms : ms.length = 8) (w : World)
    (hS : ∀ w, Calls Try.prog 13 #[.agg (dcells n ms)] w fun e w' => e = .returned (.tuple #[.slice none 0 0, .int .i64 1]) ∧ Below w.heap.size w w')
    (hI : ∀ w, Calls Try.prog 15 #[.agg (dcells n ms)] w fun e w' => e = .returned (.tuple #[.slice none 0 0, .int .i64 1]) ∧ Below w.heap.size w w') :
    Calls Try.prog 3 #[.agg (dcells n ms)] w fun e w' => e = .returned (.bool true) ∧ Below w.heap.size w w' := by
  have hl := Lib.hid hms
  have hS' := Lib.hid hS
  have hI' := Lib.hid hI
  clear hms hS hI
  go_enter Try.func3, Try.ntmps3
  go_wp2_with (first
    | (refine wpList_load_row rfl 24 _ rfl _ rfl 24 _ (0, 0) _ (hA4) Try.underlying24 rfl (rowLP (d9 _ _ (hl.out))) ?_)
    | (refine wpList_load_row rfl 24 _ rfl _ rfl 24 _ (0, 0) _ (hA2) Try.underlying24 rfl (rowLP (d9 _ _ (hl.out))) ?_)
    | (refine wpList_load_row rfl 24 _ rfl _ rfl 24 _ (0, 0) _ (Own.new w _ _) Try.underlying24 rfl (rowLP (d9 _ _ (hl.out))) ?_)
    | (go_at_call 14; ((with_reducible refine (toP_any n ms hl.out w4).mono ?_); rintro e w8 ⟨rfl, hB8⟩; have b8 := b4.trans (hB8.mono b4.size)))
    | (go_at_call 14; ((with_reducible refine (toP_any n ms hl.out w2).mono ?_); rintro e w3 ⟨rfl, hB3⟩; have b3 := b2.trans (hB3.mono b2.size); have hA3 := hA2.below hB3 hA2.lt))
    | (go_at_call 14; ((with_reducible refine (toP_any n ms hl.out _).mono ?_); rintro e w1 ⟨rfl, hB1⟩))
    | (go_at_call 13; ((with_reducible refine (hS'.out _).mono ?_); rintro e w2 ⟨rfl, hB2⟩; have hA2 : Own w2 w.heap.size (dcells n ms) 24 := ((Own.new w _ _).below hB1 (by simp)).below hB2 (Nat.lt_of_lt_of_le (by simp) hB1.size); have b2 : Below w.heap.size w w2 := (((Below.refl w.heap.size w).alloc (Nat.le_refl _) _).trans (hB1.mono (by simp))).trans (hB2.mono (Nat.le_trans (by simp) hB1.size))))
    | (go_at_call 15; ((with_reducible refine (hI'.out w8).mono ?_); rintro e w9 ⟨rfl, hB9⟩; have b9 := b8.trans (hB9.mono b8.size)))
    | (go_at_call 15; ((with_reducible refine (hI'.out w3).mono ?_); rintro e w4 ⟨rfl, hB4⟩; have b4 := b3.trans (hB4.mono b3.size); have hA4 := hA3.below hB4 hA3.lt))
    | (go_at_call 16; ((with_reducible refine (eqB_nil _).mono ?_); rintro e w0 ⟨rfl, rfl⟩))
    | (go_at_call 17; ((with_reducible refine (markB_nil _).mono ?_); rintro e w0 ⟨rfl, rfl⟩))
    | (go_at_call 18; ((with_reducible refine (heldB_nil _).mono ?_); rintro e w0 ⟨rfl, rfl⟩)))
  go_ret
  exact ⟨rfl, b9⟩
theorem kinds_law (n : Int) (ms : List Int) (hms : ms.length = 8) (hb : Bytes ms) (w : World) :
    Calls Try.prog 3 #[.agg (dcells n ms)] w fun e w' => e = .returned (.bool true) ∧ Below w.heap.size w w' := by
  cases hd : isP n ms with
  | true =>
    have hn := isP_n hd
    obtain ⟨N, rfl⟩ : ∃ N : Nat, n = N := ⟨n.toNat, by omega⟩
    obtain ⟨r, hr⟩ : ∃ r : Bool, r = true ↔ ¬ Crs (arZ N ms N (2 * N)) (2 * N) := by
      by_cases hc : Crs (arZ N ms N (2 * N)) (2 * N)
      · exact ⟨false, by simpa using hc⟩
      · exact ⟨true, by simpa using hc⟩
    exact KindsOf_walk N ms hms w _ _ _ _ _ _ _ (fun w => koS_ok N ms hms hb hd r hr w (by omega) (by omega)) (fun w => koI_ok N ms hms hb hd r hr w (by omega) (by omega))
  | false => exact KindsOf_walk_bad n ms hms w (koS_bad n ms hms hb hd) (koI_bad n ms hms hb hd)
end Go.Proofs.Ytblbnlpbefmieaa
