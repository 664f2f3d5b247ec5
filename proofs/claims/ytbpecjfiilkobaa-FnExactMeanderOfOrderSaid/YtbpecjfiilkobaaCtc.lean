/- The program's count of curves. -/
import Derived.Test.YtbpecjfiilkobaaCui
import Derived.Test.YtbpecjfiilkobaaHas
namespace Go.Proofs.Ytbpecjfiilkobaa
open Go.RowKit
set_option linter.unusedVariables false
set_option linter.unusedSimpArgs false
theorem Own.neT {w : World} {b b' : Nat} {cs cs' : Array Value} {t t' : TypeId} (h : Own w b cs t) (h' : Own w b' cs' t') (ht : t ≠ t') : b ≠ b' := by
  rintro rfl
  have : some (Obj.cells cs t (0, 0)) = some (Obj.cells cs' t' (0, 0)) := (show w.heap[b]? = _ from h).symm.trans h'
  simp at this
  exact ht this.2
end Go.Proofs.Ytbpecjfiilkobaa
