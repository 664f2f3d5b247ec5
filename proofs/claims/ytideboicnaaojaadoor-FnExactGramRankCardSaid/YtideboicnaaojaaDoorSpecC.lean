/- Contracts of the model's reading of texts. -/
import Derived.Test.YtideboicnaaojaaDoorSpecA
import Derived.Test.YtideboicnaaojaaDoorInts
import Derived.Test.YtideboicnaaojaaDoorParse
namespace Go.Proofs.YtideboicnaaojaaDoor
open Go.RowKit
theorem mk0 : ∀ w : World, (Instr.buildSlice 41 0 #[]).run Tryd.prog w = .ok (.slice (some ⟨w.heap.size, 0, none⟩) 0 0) (w.alloc (.cells #[] 2)) := by
  intro w; kernel_rfl
end Go.Proofs.YtideboicnaaojaaDoor
