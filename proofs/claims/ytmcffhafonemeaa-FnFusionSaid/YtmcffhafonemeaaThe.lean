/- The law of ThetaNumber. -/
import Derived.Test.YtmcffhafonemeaaTheL
namespace Go.Proofs.Ytmcffhafonemeaa
open Go.RowKit
set_option linter.unusedVariables false
set_option maxRecDepth 100000 in
theorem theS_bad (p c a b d : Int) (w : World) (hr : -9223372036854775808 ≤ p ∧ p ≤ 9223372036854775807) (h : modB p c = false) :
    Calls Try.prog 7 #[.int .i64 p, .int .i64 c, .int .i64 a, .int .i64 b, .int .i64 d] w fun e w' => e = .returned (.tuple #[.int .i64 0, .int .i64 2]) ∧ Below w.heap.size w w' := by
  have hc := Lib.hid (fun v w => labS_bad p c v w hr h)
  clear h hr
  go_enter Try.func7, Try.ntmps7
  go_wp2_with (first
    | (go_at_call 30; ((with_reducible refine (hc.out _ _).mono ?_); rintro e w1 ⟨rfl, rfl⟩)))
  go_ret2
  exact ⟨rfl, (Below.refl _ _).alloc (Nat.le_refl _) _⟩
set_option maxRecDepth 100000 in
theorem theS_lab (p c a b d : Int) (w : World) (hm : modB p c = true) (hL : labB (fz p c) [a, b, d] = false) :
    Calls Try.prog 7 #[.int .i64 p, .int .i64 c, .int .i64 a, .int .i64 b, .int .i64 d] w fun e w' => e = .returned (.tuple #[.int .i64 0, .int .i64 2]) ∧ Below w.heap.size w w' := by
  have hl0 := labS3 p c a b d hm
  simp only [hL, Bool.false_eq_true, if_false] at hl0
  have hl := Lib.hid hl0
  clear hl0 hL hm
  go_enter Try.func7, Try.ntmps7
  go_wp2_with (first
    | (go_at_call 30; ((with_reducible refine (hl.out _).mono ?_); rintro e w1 ⟨rfl, rfl⟩)))
  go_ret2
  exact ⟨rfl, (Below.refl _ _).alloc (Nat.le_refl _) _⟩
set_option maxRecDepth 100000 in
theorem theS_no (p c a b d : Int) (w : World) (hm : modB p c = true) (hL : labB (fz p c) [a, b, d] = true) (hA : admB (fz p c) a b d = false) :
    Calls Try.prog 7 #[.int .i64 p, .int .i64 c, .int .i64 a, .int .i64 b, .int .i64 d] w fun e w' => e = .returned (.tuple #[.int .i64 0, .int .i64 5]) ∧ Below w.heap.size w w' := by
  obtain ⟨hpr, hp, hp2, hc0, hc1⟩ := modB_spec hm
  obtain ⟨z0, z1, z97⟩ := has_zero p c hpr hc0 hc1
  obtain ⟨⟨a0, a1⟩, ⟨b0, b1⟩, d0, d1⟩ := labB_three hL
  have hl0 := labS3 p c a b d hm
  simp only [hL, if_true] at hl0
  have hl := Lib.hid hl0
  have had0 := fun w1 => admS_any (fz p c) a b d w1 (by omega) (by omega) a0 a1 b0 b1 d0 d1
  simp only [hA] at had0
  have had := Lib.hid had0
  clear hl0 had0 hL hA hm hpr z0
  go_enter Try.func7, Try.ntmps7
  go_wp2_with (first
    | (go_at_call 30; ((with_reducible refine (hl.out _).mono ?_); rintro e w1 ⟨rfl, rfl⟩))
    | (go_at_call 31; ((with_reducible refine (had.out _).mono ?_); rintro e w1 ⟨rfl, rfl⟩)))
  go_ret2
  exact ⟨rfl, (Below.refl _ _).alloc (Nat.le_refl _) _⟩
theorem the_both (p c a b d : Int) (hr : -9223372036854775808 ≤ p ∧ p ≤ 9223372036854775807) : ∃ (x y : Int), (∀ w, Calls Try.prog 7 #[.int .i64 p, .int .i64 c, .int .i64 a, .int .i64 b, .int .i64 d] w fun e w' => e = .returned (.tuple #[.int .i64 x, .int .i64 y]) ∧ Below w.heap.size w w')
    ∧ (∀ w, Calls Try.prog 6 #[.int .i64 p, .int .i64 c, .int .i64 a, .int .i64 b, .int .i64 d] w fun e w' => e = .returned (.tuple #[.int .i64 x, .int .i64 y]) ∧ Below w.heap.size w w') := by
  cases h : modB p c with
  | false => exact ⟨_, _, fun w => theS_bad p c a b d w hr h, fun w => theI_code p c a b d w false (isadI_bad p c a b d w h)⟩
  | true =>
    cases hL : labB (fz p c) [a, b, d] with
    | false => exact ⟨_, _, fun w => theS_lab p c a b d w h hL, fun w => theI_code p c a b d w false (by
        have := isadI_ok p c a b d w h
        rw [hL, Bool.false_and, if_neg (by simp)] at this
        exact this)⟩
    | true =>
      cases hA : admB (fz p c) a b d with
      | false => exact ⟨_, _, fun w => theS_no p c a b d w h hL hA, fun w => theI_no p c a b d w (by
          have := isadI_ok p c a b d w h
          rw [hL, hA, Bool.and_false, if_pos rfl] at this
          exact this)⟩
      | true =>
        obtain ⟨hpr, hp, hp2, hc0, hc1⟩ := modB_spec h
        obtain ⟨z0, z1, z97⟩ := has_zero p c hpr hc0 hc1
        obtain ⟨⟨a0, a1⟩, ⟨b0, b1⟩, d0, d1⟩ := labB_three hL
        have hA' := hA
        unfold admB at hA'
        rw [decide_eq_true_iff] at hA'
        obtain ⟨m2, t1, t2, t3, t4⟩ := hA'
        have hs := th_same p c ((a + b - d) / 2) ((b + d - a) / 2) ((d + a - b) / 2) hpr (by omega) (by omega) (by omega) z1
        exact ⟨_, _, fun w => theS_ok p c a b d _ _ _ w h hL hA rfl rfl rfl, fun w => by rw [← hs]; exact theI_ok p c a b d _ _ _ w h hL hA rfl rfl rfl⟩
end Go.Proofs.Ytmcffhafonemeaa
