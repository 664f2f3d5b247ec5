/- Contracts of the model's reading of texts. -/
import Derived.Test.YtbpecjfiilkobaaSpecA
import Derived.Test.YtbpecjfiilkobaaInts
import Derived.Test.YtbpecjfiilkobaaParse
namespace Go.Proofs.Ytbpecjfiilkobaa
open Go.RowKit
theorem mk0 : ∀ w : World, (Instr.buildSlice 22 0 #[]).run Try.prog w = .ok (.slice (some ⟨w.heap.size, 0, none⟩) 0 0) (w.alloc (.cells #[] 2)) := by
  intro w; kernel_rfl
end Go.Proofs.Ytbpecjfiilkobaa
