/- Laws of a slice of bytes that the call itself made, and the contract of the model's text of a diagram. -/
import Derived.Test.YtopenojociafaaaDoorDiaB
import Derived.Test.YtopenojociafaaaDoorBys
namespace Go.Proofs.YtopenojociafaaaDoor
open Go.RowKit

/-- The bytes of the first k places. -/
def chs (n : Int) (ms : List Int) : Nat → List Int
  | 0 => []
  | k + 1 => chs n ms k ++ [chAt n ms k]
theorem chs_len (n : Int) (ms : List Int) (k : Nat) : (chs n ms k).length = k := by
  induction k with
  | zero => rfl
  | succ k ih => simp [chs, ih]
theorem chs_get (n : Int) (ms : List Int) (k i : Nat) (h : i < k) : (chs n ms k)[i]? = some (chAt n ms i) := by
  induction k with
  | zero => omega
  | succ k ih =>
    rw [chs]
    by_cases e : i < k
    · rw [List.getElem?_append_left (by rw [chs_len]; exact e)]; exact ih e
    · have : i = k := by omega
      subst this
      rw [List.getElem?_append_right (by rw [chs_len]; omega), chs_len]; simp
theorem chs_let (n : Int) (ms : List Int) (N : Nat) : chs n ms (2 * N) = letL n ms N (2 * N) := by
  apply List.ext_getElem?
  intro i
  by_cases h : i < 2 * N
  · rw [chs_get _ _ _ _ h, letL_get n ms N (2 * N) (Nat.le_refl _) i h]
  · rw [List.getElem?_eq_none (by rw [chs_len]; omega), List.getElem?_eq_none (by rw [letL_len]; omega)]
end Go.Proofs.YtopenojociafaaaDoor
