/- The law of CountPaths. -/
import Derived.Test.YthddpedgcgejnaaPathS
namespace Go.Proofs.Ythddpedgcgejnaa
open Go.RowKit
set_option linter.unusedVariables false
theorem paths_both (z n k : Int) : ∃ x y : Int, (∀ w, Calls Try.prog 25 #[.int .i64 z, .int .i64 n, .int .i64 k] w fun e w' => e = .returned (.tuple #[.int .i64 x, .int .i64 y]) ∧ Below w.heap.size w w')
    ∧ (∀ w, Calls Try.prog 26 #[.int .i64 z, .int .i64 n, .int .i64 k] w fun e w' => e = .returned (.tuple #[.int .i64 x, .int .i64 y]) ∧ Below w.heap.size w w') := by
  by_cases h : 1 ≤ z ∧ z ≤ 100 ∧ 0 ≤ n ∧ n ≤ 40 ∧ 0 ≤ k ∧ k < z
  · obtain ⟨Z, rfl⟩ : ∃ Z : Nat, z = Z := ⟨z.toNat, by omega⟩
    obtain ⟨N, rfl⟩ : ∃ N : Nat, n = N := ⟨n.toNat, by omega⟩
    obtain ⟨K, rfl⟩ : ∃ K : Nat, k = K := ⟨k.toNat, by omega⟩
    exact ⟨_, _, fun w => pathsS_ok Z N K w (by omega) (by omega) (by omega) (by omega), fun w => pathsI_ok Z N K w (by omega) (by omega) (by omega) (by omega)⟩
  · exact ⟨_, _, fun w => (pathsS_bad z n k w h).mono fun e w' ⟨h1, h2⟩ => ⟨h1, by rw [h2]; exact Below.refl _ _⟩, fun w => (pathsI_bad z n k w h).mono fun e w' ⟨h1, h2⟩ => ⟨h1, by rw [h2]; exact Below.refl _ _⟩⟩
set_option maxRecDepth 100000 in
theorem paths_law (z n k : Int) (W : World) : Calls Try.prog 9 #[.int .i64 z, .int .i64 n, .int .i64 k] W fun e w' => e = .returned (.bool true) ∧ Below W.heap.size W w' := by
  obtain ⟨x, y, hS0, hI0⟩ := paths_both z n k
  have hS := Lib.hid hS0
  have hI := Lib.hid hI0
  clear hS0 hI0
  go_enter Try.func9, Try.ntmps9
  go_wp2_with (first
    | (go_at_call 25; ((with_reducible refine (hS.out _).mono ?_); rintro e w1 ⟨rfl, hB1⟩))
    | (go_at_call 26; ((with_reducible refine (hI.out _).mono ?_); rintro e w2 ⟨rfl, hB2⟩)))
  go_ret
  exact ⟨rfl, hB1.trans (hB2.mono hB1.size)⟩
end Go.Proofs.Ythddpedgcgejnaa
