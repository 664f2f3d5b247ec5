/- Contracts of the program's smallest functions: sizes, new lists of mates, two points joined, a diagram out of its mates. -/
import Derived.Test.YtmcffhafonemeaaBase
namespace Go.Proofs.Ytmcffhafonemeaa
open Go.RowKit
theorem make16 : ∀ w : World, (Instr.makeSlice 22 (.int .i64 16) (.int .i64 16)).run Try.prog w = .ok (.slice (some ⟨w.heap.size, 0, none⟩) 16 16) (w.alloc (.cells (mcells zeros) 5)) := by
  intro w; kernel_rfl
end Go.Proofs.Ytmcffhafonemeaa
