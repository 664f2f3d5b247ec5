/- The model's count of curves. -/
import Derived.Test.YtbpecjfiilkobaaSwk
import Derived.Test.YtbpecjfiilkobaaBl
namespace Go.Proofs.Ytbpecjfiilkobaa
open Go.RowKit
set_option linter.unusedVariables false
set_option linter.unusedSimpArgs false
def f12 : List Bool := List.replicate 12 false
theorem built12b : Try.prog.built 28 [] = some (bcells f12) := by kernel_rfl
theorem row12b : (Try.prog.info? 28).map (·.size) = some (bcells f12).size := by kernel_rfl
theorem one12b (mb : List Bool) : (bcells mb).all (·.oneCell') = true := by simp [bcells, Value.oneCell']
end Go.Proofs.Ytbpecjfiilkobaa
