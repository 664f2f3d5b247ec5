/- The laws of ChebyshevNumber, FirstZero and ProjectionExists. -/
import Derived.Test.YthddpedgcgejnaaCheS
namespace Go.Proofs.Ythddpedgcgejnaa
open Go.RowKit
set_option linter.unusedVariables false
/-- A number that is an int64. -/
theorem of_wf {a : Int} (h : (Lit.int IntKind.i64 a).wf = true) : -9223372036854775808 ≤ a ∧ a ≤ 9223372036854775807 := by
  have h' : (decide (IntKind.i64.min ≤ a) && decide (a ≤ IntKind.i64.max)) = true := h
  rw [Bool.and_eq_true, decide_eq_true_iff, decide_eq_true_iff, show IntKind.i64.min = -9223372036854775808 by decide, show IntKind.i64.max = 9223372036854775807 by decide] at h'
  exact h'
theorem up_l {w w' : World} {e : Ending} {v : Value} (h : e = .returned v ∧ w = w') : e = .returned v ∧ Below w.heap.size w w' := ⟨h.1, by rw [← h.2]; exact Below.refl _ _⟩
theorem up_r {w w' : World} {e : Ending} {v : Value} (h : e = .returned v ∧ w' = w) : e = .returned v ∧ Below w.heap.size w w' := ⟨h.1, by rw [h.2]; exact Below.refl _ _⟩
theorem cheb_both (p c k : Int) (hr : -9223372036854775808 ≤ p ∧ p ≤ 9223372036854775807) : ∃ x y : Int, (∀ w, Calls Try.prog 10 #[.int .i64 p, .int .i64 c, .int .i64 k] w fun e w' => e = .returned (.tuple #[.int .i64 x, .int .i64 y]) ∧ Below w.heap.size w w')
    ∧ (∀ w, Calls Try.prog 11 #[.int .i64 p, .int .i64 c, .int .i64 k] w fun e w' => e = .returned (.tuple #[.int .i64 x, .int .i64 y]) ∧ Below w.heap.size w w') := by
  by_cases h : modB p c = true ∧ 0 ≤ k ∧ k ≤ 1000
  · obtain ⟨K, rfl⟩ : ∃ K : Nat, k = K := ⟨k.toNat, by omega⟩
    exact ⟨_, _, fun w => (chebS_ok p c K w h.1 (by omega)).mono fun e w' h => up_l h, fun w => chebI_ok p c K w h.1 (by omega)⟩
  · exact ⟨_, _, fun w => (chebS_bad p c k w hr h).mono fun e w' h => up_l h, fun w => (chebI_bad p c k w h).mono fun e w' h => up_r h⟩
set_option maxRecDepth 100000 in
theorem cheb_law (p c k : Int) (W : World) (hr : -9223372036854775808 ≤ p ∧ p ≤ 9223372036854775807) : Calls Try.prog 3 #[.int .i64 p, .int .i64 c, .int .i64 k] W fun e w' => e = .returned (.bool true) ∧ Below W.heap.size W w' := by
  obtain ⟨x, y, hS0, hI0⟩ := cheb_both p c k hr
  have hS := Lib.hid hS0
  have hI := Lib.hid hI0
  clear hS0 hI0 hr
  go_enter Try.func3, Try.ntmps3
  go_wp2_with (first
    | (go_at_call 10; ((with_reducible refine (hS.out _).mono ?_); rintro e w1 ⟨rfl, hB1⟩))
    | (go_at_call 11; ((with_reducible refine (hI.out _).mono ?_); rintro e w2 ⟨rfl, hB2⟩)))
  go_ret
  exact ⟨rfl, hB1.trans (hB2.mono hB1.size)⟩
theorem fz_both (p c : Int) (hr : -9223372036854775808 ≤ p ∧ p ≤ 9223372036854775807) : ∃ x y : Int, (∀ w, Calls Try.prog 12 #[.int .i64 p, .int .i64 c] w fun e w' => e = .returned (.tuple #[.int .i64 x, .int .i64 y]) ∧ Below w.heap.size w w')
    ∧ (∀ w, Calls Try.prog 13 #[.int .i64 p, .int .i64 c] w fun e w' => e = .returned (.tuple #[.int .i64 x, .int .i64 y]) ∧ Below w.heap.size w w') := by
  cases h : modB p c with
  | true => exact ⟨_, _, fun w => (fzS_ok p c w h).mono fun e w' h => up_l h, fun w => fzI_ok p c w h⟩
  | false => exact ⟨_, _, fun w => (fzS_bad p c w hr h).mono fun e w' h => up_l h, fun w => (fzI_bad p c w h).mono fun e w' h => up_r h⟩
set_option maxRecDepth 100000 in
theorem fz_law (p c : Int) (W : World) (hr : -9223372036854775808 ≤ p ∧ p ≤ 9223372036854775807) : Calls Try.prog 4 #[.int .i64 p, .int .i64 c] W fun e w' => e = .returned (.bool true) ∧ Below W.heap.size W w' := by
  obtain ⟨x, y, hS0, hI0⟩ := fz_both p c hr
  have hS := Lib.hid hS0
  have hI := Lib.hid hI0
  clear hS0 hI0 hr
  go_enter Try.func4, Try.ntmps4
  go_wp2_with (first
    | (go_at_call 12; ((with_reducible refine (hS.out _).mono ?_); rintro e w1 ⟨rfl, hB1⟩))
    | (go_at_call 13; ((with_reducible refine (hI.out _).mono ?_); rintro e w2 ⟨rfl, hB2⟩)))
  go_ret
  exact ⟨rfl, hB1.trans (hB2.mono hB1.size)⟩
theorem pe_both (p c n : Int) (hr : -9223372036854775808 ≤ p ∧ p ≤ 9223372036854775807) : ∃ (x : Bool) (y : Int), (∀ w, Calls Try.prog 14 #[.int .i64 p, .int .i64 c, .int .i64 n] w fun e w' => e = .returned (.tuple #[.bool x, .int .i64 y]) ∧ Below w.heap.size w w')
    ∧ (∀ w, Calls Try.prog 15 #[.int .i64 p, .int .i64 c, .int .i64 n] w fun e w' => e = .returned (.tuple #[.bool x, .int .i64 y]) ∧ Below w.heap.size w w') := by
  by_cases h : modB p c = true ∧ 1 ≤ n ∧ n ≤ 8
  · exact ⟨_, _, fun w => (peS_ok p c n w h.1 h.2.1 h.2.2).mono fun e w' h => up_l h, fun w => peI_ok p c n w h.1 h.2.1 h.2.2⟩
  · exact ⟨_, _, fun w => (peS_bad p c n w hr h).mono fun e w' h => up_l h, fun w => (peI_bad p c n w h).mono fun e w' h => up_r h⟩
set_option maxRecDepth 100000 in
theorem pe_law (p c n : Int) (W : World) (hr : -9223372036854775808 ≤ p ∧ p ≤ 9223372036854775807) : Calls Try.prog 5 #[.int .i64 p, .int .i64 c, .int .i64 n] W fun e w' => e = .returned (.bool true) ∧ Below W.heap.size W w' := by
  obtain ⟨x, y, hS0, hI0⟩ := pe_both p c n hr
  have hS := Lib.hid hS0
  have hI := Lib.hid hI0
  clear hS0 hI0 hr
  cases x
  all_goals
    go_enter Try.func5, Try.ntmps5
    go_wp2_with (first
      | (go_at_call 14; ((with_reducible refine (hS.out _).mono ?_); rintro e w1 ⟨rfl, hB1⟩))
      | (go_at_call 15; ((with_reducible refine (hI.out _).mono ?_); rintro e w2 ⟨rfl, hB2⟩)))
    go_ret
    exact ⟨rfl, hB1.trans (hB2.mono hB1.size)⟩
end Go.Proofs.Ythddpedgcgejnaa
