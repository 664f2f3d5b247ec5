/- IsAdmissible: program, model and law. -/
import Derived.Test.YtmcffhafonemeaaAdm
namespace Go.Proofs.Ytmcffhafonemeaa
open Go.RowKit
set_option linter.unusedVariables false
theorem labB_three {z a b d : Int} (h : labB z [a, b, d] = true) : (0 ≤ a ∧ a < z) ∧ (0 ≤ b ∧ b < z) ∧ (0 ≤ d ∧ d < z) := by
  simpa [labB] using h
theorem labB_two {z a b : Int} (h : labB z [a, b] = true) : (0 ≤ a ∧ a < z) ∧ (0 ≤ b ∧ b < z) := by
  simpa [labB] using h
theorem own3 (w : World) (a b d : Int) : Own (w.alloc (.cells #[.int .i64 a, .int .i64 b, .int .i64 d] 2)) w.heap.size (icells [a, b, d]) 2 := Own.new _ _ _
theorem own2 (w : World) (a b : Int) : Own (w.alloc (.cells #[.int .i64 a, .int .i64 b] 2)) w.heap.size (icells [a, b]) 2 := Own.new _ _ _
theorem labI3 (z a b d : Int) (w1 : World) : Calls Try.prog 36 #[.int .i64 z, .slice (some ⟨w1.heap.size, 0, none⟩) 3 3] (w1.alloc (.cells #[.int .i64 a, .int .i64 b, .int .i64 d] 2)) fun e w' => e = .returned (.bool (labB z [a, b, d])) ∧ (w1.alloc (.cells #[.int .i64 a, .int .i64 b, .int .i64 d] 2)) = w' := labI_any z [a, b, d] 3 _ _ (by simp) (own3 w1 a b d)
theorem labI2 (z a b : Int) (w1 : World) : Calls Try.prog 36 #[.int .i64 z, .slice (some ⟨w1.heap.size, 0, none⟩) 2 2] (w1.alloc (.cells #[.int .i64 a, .int .i64 b] 2)) fun e w' => e = .returned (.bool (labB z [a, b])) ∧ (w1.alloc (.cells #[.int .i64 a, .int .i64 b] 2)) = w' := labI_any z [a, b] 2 _ _ (by simp) (own2 w1 a b)
theorem labS3 (p c a b d : Int) (h : modB p c = true) (w1 : World) : Calls Try.prog 30 #[.int .i64 p, .int .i64 c, .slice (some ⟨w1.heap.size, 0, none⟩) 3 3] (w1.alloc (.cells #[.int .i64 a, .int .i64 b, .int .i64 d] 2)) fun e w' => e = .returned (.tuple #[.int .i64 (if labB (fz p c) [a, b, d] then fz p c else 0), .int .i64 (if labB (fz p c) [a, b, d] then 0 else 2)]) ∧ (w1.alloc (.cells #[.int .i64 a, .int .i64 b, .int .i64 d] 2)) = w' := labS_ok p c [a, b, d] 3 _ _ h (by simp) (own3 w1 a b d)
theorem labS2 (p c a b : Int) (h : modB p c = true) (w1 : World) : Calls Try.prog 30 #[.int .i64 p, .int .i64 c, .slice (some ⟨w1.heap.size, 0, none⟩) 2 2] (w1.alloc (.cells #[.int .i64 a, .int .i64 b] 2)) fun e w' => e = .returned (.tuple #[.int .i64 (if labB (fz p c) [a, b] then fz p c else 0), .int .i64 (if labB (fz p c) [a, b] then 0 else 2)]) ∧ (w1.alloc (.cells #[.int .i64 a, .int .i64 b] 2)) = w' := labS_ok p c [a, b] 2 _ _ h (by simp) (own2 w1 a b)
set_option maxRecDepth 100000 in
theorem isadI_bad (p c a b d : Int) (w : World) (h : modB p c = false) :
    Calls Try.prog 8 #[.int .i64 p, .int .i64 c, .int .i64 a, .int .i64 b, .int .i64 d] w fun e w' => e = .returned (.tuple #[.bool false, .int .i64 2]) ∧ Below w.heap.size w w' := by
  have hc := Lib.hid (modI_f h w)
  clear h
  go_enter Try.func8, Try.ntmps8
  go_wp2_with (first
    | (go_at_call 34; ((with_reducible refine (hc.out).mono ?_); rintro e w1 ⟨rfl, rfl⟩)))
  go_ret2
  exact ⟨rfl, Below.refl _ _⟩
set_option maxRecDepth 100000 in
theorem isadI_ok (p c a b d : Int) (w : World) (h : modB p c = true) :
    Calls Try.prog 8 #[.int .i64 p, .int .i64 c, .int .i64 a, .int .i64 b, .int .i64 d] w fun e w' => e = .returned (.tuple #[.bool (labB (fz p c) [a, b, d] && admB (fz p c) a b d), .int .i64 (if labB (fz p c) [a, b, d] then 0 else 2)]) ∧ Below w.heap.size w w' := by
  obtain ⟨hpr, hp, hp2, c0, c1⟩ := modB_spec h
  obtain ⟨z0, z1, z97⟩ := has_zero p c hpr c0 c1
  have hc := Lib.hid (modI_t h w)
  have hz := Lib.hid (zeroI_any p c w h)
  clear h z0
  generalize fz p c = z at *
  have hl := Lib.hid (fun w1 => labI3 z a b d w1)
  cases hL : labB z [a, b, d] with
  | false =>
    rw [hL] at hl
    rw [Bool.false_and, if_neg (by simp)]
    clear hL
    go_enter Try.func8, Try.ntmps8
    go_wp2_with (first
      | (go_at_call 34; ((with_reducible refine (hc.out).mono ?_); rintro e w1 ⟨rfl, rfl⟩))
      | (go_at_call 35; ((with_reducible refine (hz.out).mono ?_); rintro e w2 ⟨rfl, hB⟩))
      | (go_at_call 36; ((with_reducible refine (hl.out _).mono ?_); rintro e w3 ⟨rfl, rfl⟩)))
    go_ret2
    exact ⟨rfl, hB.alloc hB.size _⟩
  | true =>
    rw [hL] at hl
    rw [Bool.true_and, if_pos rfl]
    obtain ⟨⟨a0, a1⟩, ⟨b0, b1⟩, d0, d1⟩ := labB_three hL
    have ha := Lib.hid (fun w1 => admI_any z a b d w1 (by omega) (by omega) a0 a1 b0 b1 d0 d1)
    clear hL
    go_enter Try.func8, Try.ntmps8
    go_wp2_with (first
      | (go_at_call 34; ((with_reducible refine (hc.out).mono ?_); rintro e w1 ⟨rfl, rfl⟩))
      | (go_at_call 35; ((with_reducible refine (hz.out).mono ?_); rintro e w2 ⟨rfl, hB⟩))
      | (go_at_call 36; ((with_reducible refine (hl.out _).mono ?_); rintro e w3 ⟨rfl, rfl⟩))
      | (go_at_call 37; ((with_reducible refine (ha.out _).mono ?_); rintro e w4 ⟨rfl, rfl⟩)))
    go_ret2
    exact ⟨rfl, hB.alloc hB.size _⟩
set_option maxRecDepth 100000 in
theorem isadS_bad (p c a b d : Int) (w : World) (hr : -9223372036854775808 ≤ p ∧ p ≤ 9223372036854775807) (h : modB p c = false) :
    Calls Try.prog 23 #[.int .i64 p, .int .i64 c, .int .i64 a, .int .i64 b, .int .i64 d] w fun e w' => e = .returned (.tuple #[.bool false, .int .i64 2]) ∧ Below w.heap.size w w' := by
  have hc := Lib.hid (fun v w => labS_bad p c v w hr h)
  clear h hr
  go_enter Try.func23, Try.ntmps23
  go_wp2_with (first
    | (go_at_call 30; ((with_reducible refine (hc.out _ _).mono ?_); rintro e w1 ⟨rfl, rfl⟩)))
  go_ret2
  exact ⟨rfl, (Below.refl _ _).alloc (Nat.le_refl _) _⟩
set_option maxRecDepth 100000 in
theorem isadS_ok (p c a b d : Int) (w : World) (h : modB p c = true) :
    Calls Try.prog 23 #[.int .i64 p, .int .i64 c, .int .i64 a, .int .i64 b, .int .i64 d] w fun e w' => e = .returned (.tuple #[.bool (labB (fz p c) [a, b, d] && admB (fz p c) a b d), .int .i64 (if labB (fz p c) [a, b, d] then 0 else 2)]) ∧ Below w.heap.size w w' := by
  obtain ⟨hpr, hp, hp2, c0, c1⟩ := modB_spec h
  obtain ⟨z0, z1, z97⟩ := has_zero p c hpr c0 c1
  have hl := fun w1 => labS3 p c a b d h w1
  clear h z0
  generalize fz p c = z at *
  cases hL : labB z [a, b, d] with
  | false =>
    simp only [hL, Bool.false_eq_true, if_false] at hl
    have hl' := Lib.hid hl
    rw [Bool.false_and, if_neg (by simp)]
    clear hL hl
    go_enter Try.func23, Try.ntmps23
    go_wp2_with (first
      | (go_at_call 30; ((with_reducible refine (hl'.out _).mono ?_); rintro e w3 ⟨rfl, rfl⟩)))
    go_ret2
    exact ⟨rfl, (Below.refl _ _).alloc (Nat.le_refl _) _⟩
  | true =>
    simp only [hL, if_true] at hl
    have hl' := Lib.hid hl
    rw [Bool.true_and, if_pos rfl]
    obtain ⟨⟨a0, a1⟩, ⟨b0, b1⟩, d0, d1⟩ := labB_three hL
    have ha := Lib.hid (fun w1 => admS_any z a b d w1 (by omega) (by omega) a0 a1 b0 b1 d0 d1)
    clear hL hl
    go_enter Try.func23, Try.ntmps23
    go_wp2_with (first
      | (go_at_call 30; ((with_reducible refine (hl'.out _).mono ?_); rintro e w3 ⟨rfl, rfl⟩))
      | (go_at_call 31; ((with_reducible refine (ha.out _).mono ?_); rintro e w4 ⟨rfl, rfl⟩)))
    go_ret2
    exact ⟨rfl, (Below.refl _ _).alloc (Nat.le_refl _) _⟩
theorem isad_both (p c a b d : Int) (hr : -9223372036854775808 ≤ p ∧ p ≤ 9223372036854775807) : ∃ (x : Bool) (y : Int), (∀ w, Calls Try.prog 23 #[.int .i64 p, .int .i64 c, .int .i64 a, .int .i64 b, .int .i64 d] w fun e w' => e = .returned (.tuple #[.bool x, .int .i64 y]) ∧ Below w.heap.size w w')
    ∧ (∀ w, Calls Try.prog 8 #[.int .i64 p, .int .i64 c, .int .i64 a, .int .i64 b, .int .i64 d] w fun e w' => e = .returned (.tuple #[.bool x, .int .i64 y]) ∧ Below w.heap.size w w') := by
  cases h : modB p c with
  | true => exact ⟨_, _, fun w => isadS_ok p c a b d w h, fun w => isadI_ok p c a b d w h⟩
  | false => exact ⟨_, _, fun w => isadS_bad p c a b d w hr h, fun w => isadI_bad p c a b d w h⟩
end Go.Proofs.Ytmcffhafonemeaa
