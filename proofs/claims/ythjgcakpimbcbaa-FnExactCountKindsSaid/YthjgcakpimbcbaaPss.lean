/- The surrounding diagram: the model's. -/
import Derived.Test.YthjgcakpimbcbaaPnx
import Derived.Test.YthjgcakpimbcbaaPls
namespace Go.Proofs.Ythjgcakpimbcbaa
open Go.RowKit Go.BigFrame
set_option linter.unusedVariables false
/-- The mates, behind k places. -/
def sj (a : List Int) (m : Nat) : Nat → List Int
  | 0 => zeros
  | k + 1 => joinL (sj a m k) (pl m (2 * (k : Int) + 1)) (pl m (2 * ((nx a m k : Nat) : Int)))
theorem sj_len (a : List Int) (m k : Nat) : (sj a m k).length = 16 := by
  induction k with
  | zero => exact zlen
  | succ k ih => exact (joinL_len _ _ _).trans ih
theorem tm_next2 (p N : Nat) : ((p : Int) + 1).tmod (2 * (N : Int)) = ((p + 1) % (2 * N) : Nat) := by
  rw [show (2 * (N : Int)) = ((2 * N : Nat) : Int) by omega]; exact tm_next p (2 * N)
end Go.Proofs.Ythjgcakpimbcbaa
