/- The laws of ChebyshevNumber, FirstZero and ProjectionExists. -/
import Derived.Test.YtmcffhafonemeaaCheS
namespace Go.Proofs.Ytmcffhafonemeaa
open Go.RowKit
set_option linter.unusedVariables false
theorem up_l {w w' : World} {e : Ending} {v : Value} (h : e = .returned v ∧ w = w') : e = .returned v ∧ Below w.heap.size w w' := ⟨h.1, by rw [← h.2]; exact Below.refl _ _⟩
theorem up_r {w w' : World} {e : Ending} {v : Value} (h : e = .returned v ∧ w' = w) : e = .returned v ∧ Below w.heap.size w w' := ⟨h.1, by rw [h.2]; exact Below.refl _ _⟩
theorem cheb_both (p c k : Int) (hr : -9223372036854775808 ≤ p ∧ p ≤ 9223372036854775807) : ∃ x y : Int, (∀ w, Calls Try.prog 18 #[.int .i64 p, .int .i64 c, .int .i64 k] w fun e w' => e = .returned (.tuple #[.int .i64 x, .int .i64 y]) ∧ Below w.heap.size w w')
    ∧ (∀ w, Calls Try.prog 16 #[.int .i64 p, .int .i64 c, .int .i64 k] w fun e w' => e = .returned (.tuple #[.int .i64 x, .int .i64 y]) ∧ Below w.heap.size w w') := by
  by_cases h : modB p c = true ∧ 0 ≤ k ∧ k ≤ 1000
  · obtain ⟨K, rfl⟩ : ∃ K : Nat, k = K := ⟨k.toNat, by omega⟩
    exact ⟨_, _, fun w => (chebS_ok p c K w h.1 (by omega)).mono fun e w' h => up_l h, fun w => chebI_ok p c K w h.1 (by omega)⟩
  · exact ⟨_, _, fun w => (chebS_bad p c k w hr h).mono fun e w' h => up_l h, fun w => (chebI_bad p c k w h).mono fun e w' h => up_r h⟩
theorem fz_both (p c : Int) (hr : -9223372036854775808 ≤ p ∧ p ≤ 9223372036854775807) : ∃ x y : Int, (∀ w, Calls Try.prog 15 #[.int .i64 p, .int .i64 c] w fun e w' => e = .returned (.tuple #[.int .i64 x, .int .i64 y]) ∧ Below w.heap.size w w')
    ∧ (∀ w, Calls Try.prog 14 #[.int .i64 p, .int .i64 c] w fun e w' => e = .returned (.tuple #[.int .i64 x, .int .i64 y]) ∧ Below w.heap.size w w') := by
  cases h : modB p c with
  | true => exact ⟨_, _, fun w => (fzS_ok p c w h).mono fun e w' h => up_l h, fun w => fzI_ok p c w h⟩
  | false => exact ⟨_, _, fun w => (fzS_bad p c w hr h).mono fun e w' h => up_l h, fun w => (fzI_bad p c w h).mono fun e w' h => up_r h⟩
end Go.Proofs.Ytmcffhafonemeaa
