/- The law of CountPaths. -/
import Derived.Test.YtmcffhafonemeaaPathS
namespace Go.Proofs.Ytmcffhafonemeaa
open Go.RowKit
set_option linter.unusedVariables false
theorem paths_both (z n k : Int) : ∃ x y : Int, (∀ w, Calls Try.prog 21 #[.int .i64 z, .int .i64 n, .int .i64 k] w fun e w' => e = .returned (.tuple #[.int .i64 x, .int .i64 y]) ∧ Below w.heap.size w w')
    ∧ (∀ w, Calls Try.prog 20 #[.int .i64 z, .int .i64 n, .int .i64 k] w fun e w' => e = .returned (.tuple #[.int .i64 x, .int .i64 y]) ∧ Below w.heap.size w w') := by
  by_cases h : 1 ≤ z ∧ z ≤ 100 ∧ 0 ≤ n ∧ n ≤ 40 ∧ 0 ≤ k ∧ k < z
  · obtain ⟨Z, rfl⟩ : ∃ Z : Nat, z = Z := ⟨z.toNat, by omega⟩
    obtain ⟨N, rfl⟩ : ∃ N : Nat, n = N := ⟨n.toNat, by omega⟩
    obtain ⟨K, rfl⟩ : ∃ K : Nat, k = K := ⟨k.toNat, by omega⟩
    exact ⟨_, _, fun w => pathsS_ok Z N K w (by omega) (by omega) (by omega) (by omega), fun w => pathsI_ok Z N K w (by omega) (by omega) (by omega) (by omega)⟩
  · exact ⟨_, _, fun w => (pathsS_bad z n k w h).mono fun e w' ⟨h1, h2⟩ => ⟨h1, by rw [h2]; exact Below.refl _ _⟩, fun w => (pathsI_bad z n k w h).mono fun e w' ⟨h1, h2⟩ => ⟨h1, by rw [h2]; exact Below.refl _ _⟩⟩
end Go.Proofs.Ytmcffhafonemeaa
