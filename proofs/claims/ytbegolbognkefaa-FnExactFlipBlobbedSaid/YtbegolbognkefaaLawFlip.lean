/- The law of FlipDiagram. -/
import Derived.Test.YtbegolbognkefaaFlipI
import Derived.Test.YtbegolbognkefaaFlipS
namespace Go.Proofs.Ytbegolbognkefaa
open Go.RowKit
theorem flipC_inj (n i j : Int) (hi : 0 ≤ i ∧ i < 2 * n) (hj : 0 ≤ j ∧ j < 2 * n) (h : (i + n) % (2 * n) = (j + n) % (2 * n)) : i = j := by
  have key : ∀ x : Int, 0 ≤ x → x < 2 * n → (x + n) % (2 * n) = if x < n then x + n else x - n := by
    intro x x0 x2
    by_cases e : x < n
    · rw [if_pos e]; exact Int.emod_eq_of_lt (by omega) (by omega)
    · rw [if_neg e, show x + n = (x - n) + 2 * n by omega, Int.add_emod_right]; exact Int.emod_eq_of_lt (by omega) (by omega)
  rw [key i hi.1 hi.2, key j hj.1 hj.2] at h
  split at h <;> split at h <;> omega
end Go.Proofs.Ytbegolbognkefaa
