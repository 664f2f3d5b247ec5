/- CountWithRainbow: the program's, the model's, the law. -/
import Derived.Test.YtlgdeciikliihaaRnb
import Derived.Test.YtlgdeciikliihaaCts
namespace Go.Proofs.Ytlgdeciikliihaa
open Go.RowKit Go.BigFrame
set_option linter.unusedVariables false
set_option linter.unusedSimpArgs false
/-- A meander with the rainbow. -/
def pRb (m : Nat) (t : List UInt8) : Bool := decide (comps (mf (sysO t)) (mf (rbO m)) (2 * m) = 1)
theorem rbO_sys (m : Nat) (h1 : 1 ≤ m) (h6 : m ≤ 6) : Sys (2 * m) (rbO m) := by
  have h := sarc_sys (rb_sys m h1 h6).1
  rw [size_list, rbS, strT_size] at h; exact h
theorem sysO_sys {m : Nat} {t : List UInt8} (h : sarc t = some (sysO t)) (h2 : t.length = 2 * m) : Sys (2 * m) (sysO t) := by
  have := sarc_sys h
  rw [h2] at this; exact this
end Go.Proofs.Ytlgdeciikliihaa
