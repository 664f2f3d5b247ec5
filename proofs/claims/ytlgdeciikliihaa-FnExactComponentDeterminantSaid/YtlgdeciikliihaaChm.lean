/- Plain mathematics: how many half diagrams there are; the tests of sizes; CountHalves, the model's. -/
import Derived.Test.YtlgdeciikliihaaExM
import Derived.Test.YtlgdeciikliihaaImplA
import Derived.Test.YtlgdeciikliihaaSpecA
namespace Go.Proofs.Ytlgdeciikliihaa
open Go.RowKit
set_option linter.unusedVariables false
set_option linter.unusedSimpArgs false
/-- n over i, as the model counts it. -/
def ovr (n : Nat) : Nat → Int
  | 0 => 1
  | i + 1 => ovr n i * ((n : Int) - i) / ((i : Int) + 1)
def lss (n : Nat) : Nat → Int
  | 0 => 0
  | i + 1 => ovr n i
theorem ovr_bd (n : Nat) (hn : n ≤ 8) (i : Nat) (hi : i ≤ 4) : 0 ≤ ovr n i ∧ ovr n i ≤ 100 := by
  have h : ∀ n, n < 9 → ∀ i, i < 5 → 0 ≤ ovr n i ∧ ovr n i ≤ 100 := by decide +kernel
  exact h n (by omega) i (by omega)
theorem lss_bd (n : Nat) (hn : n ≤ 8) (i : Nat) (hi : i ≤ 4) : 0 ≤ lss n i ∧ lss n i ≤ 100 := by
  cases i with
  | zero => simp [lss]
  | succ i => exact ovr_bd n hn i (by omega)
theorem allH_count (n k : Nat) (h1 : 1 ≤ n) (h8 : n ≤ 8) (hk : k ≤ n) (he : (n - k) % 2 = 0) : ((allH n k).length : Int) = ovr n ((n - k) / 2) - lss n ((n - k) / 2) := by
  have h : ∀ n, n < 9 → ∀ k, k < 9 → 1 ≤ n → k ≤ n → (n - k) % 2 = 0 → ((allH n k).length : Int) = ovr n ((n - k) / 2) - lss n ((n - k) / 2) := by decide +kernel
  exact h n (by omega) k (by omega) h1 hk he
theorem allH_small (n k : Nat) (h1 : 1 ≤ n) (h8 : n ≤ 12) (hk : k ≤ n) (he : (n - k) % 2 = 0) : (allH n k).length ≤ 1000 := by
  have h : ∀ n, n < 13 → ∀ k, k < 13 → 1 ≤ n → k ≤ n → (n - k) % 2 = 0 → (allH n k).length ≤ 1000 := by decide +kernel
  exact h n (by omega) k (by omega) h1 hk he
/-- The sizes of cells. -/
def CellOk (n k m : Int) : Prop := (1 ≤ n ∧ n ≤ m) ∧ 0 ≤ k ∧ k ≤ n ∧ (n - k) % 2 = 0
end Go.Proofs.Ytlgdeciikliihaa
