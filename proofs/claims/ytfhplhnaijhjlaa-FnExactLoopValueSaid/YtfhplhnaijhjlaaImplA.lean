/- Contracts of the program's smallest functions: sizes, new lists of mates, two points joined, a diagram out of its mates. -/
import Derived.Test.YtfhplhnaijhjlaaBase
namespace Go.Proofs.Ytfhplhnaijhjlaa
open Go.RowKit
theorem built26 (n : Int) (ms : List Int) (h : ms.length = 16) : Try.prog.built 71 [(0, .int .i64 n), (1, .agg (mcells ms))] = some (dcells n ms) := by
  obtain ⟨a0, a1, a2, a3, a4, a5, a6, a7, a8, a9, b0, b1, b2, b3, b4, b5, rfl⟩ := list16 ms h
  kernel_rfl
theorem arrayAt16 (b : Nat) : ∀ w : World, (Instr.arrayAt 69 (.slice (some ⟨b, 0, none⟩) 16 16)).run Try.prog w = .ok (.pointer (some ⟨b, 0, none⟩)) w := by
  intro w; kernel_rfl
end Go.Proofs.Ytfhplhnaijhjlaa
