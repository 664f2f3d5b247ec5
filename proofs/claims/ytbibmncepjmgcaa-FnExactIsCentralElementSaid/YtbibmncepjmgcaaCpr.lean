/- The error of two elements: the program's codeOfPair and the model's l02Both. -/
import Derived.Test.YtbibmncepjmgcaaElL
import Derived.Test.YtbibmncepjmgcaaElA
import Derived.Deep.CutRange
namespace Go.Proofs.Ytbibmncepjmgcaa
open Go.RowKit Go.Lib
set_option linter.unusedVariables false
set_option linter.unusedSimpArgs false
theorem own4b {w : World} {g : Nat} {v0 v1 v2 v3 : Value} {t : TypeId} (h : Own w g #[v0, v1, v2, v3] t) : w.cell? ⟨g, 0, none⟩ = some v0 ∧ w.cell? ⟨g, 1, none⟩ = some v1 ∧ w.cell? ⟨g, 2, none⟩ = some v2 ∧ w.cell? ⟨g, 3, none⟩ = some v3 := ⟨h.cell 0, h.cell 1, h.cell 2, h.cell 3⟩
/-- The code of two elements. -/
def prC (p c n : Int) (xs : List Tm) (p2 c2 n2 : Int) (ys : List Tm) : Int := if elB p c n xs && elB p2 c2 n2 ys then (if p = p2 ∧ c = c2 ∧ n = n2 then 0 else 2) else 1
theorem prC_zero {p c n p2 c2 n2 : Int} {xs ys : List Tm} (h : prC p c n xs p2 c2 n2 ys = 0) : elB p c n xs = true ∧ elB p2 c2 n2 ys = true ∧ p = p2 ∧ c = c2 ∧ n = n2 := by
  unfold prC at h
  split at h
  next a =>
    rw [Bool.and_eq_true] at a
    split at h
    next b => exact ⟨a.1, a.2, b⟩
    next => omega
  next => omega
end Go.Proofs.Ytbibmncepjmgcaa
