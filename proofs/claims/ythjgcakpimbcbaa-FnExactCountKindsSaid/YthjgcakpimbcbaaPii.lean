/- The contract of the program's IsPartition. -/
import Derived.Test.YthjgcakpimbcbaaPis
namespace Go.Proofs.Ythjgcakpimbcbaa
open Go.RowKit
set_option linter.unusedVariables false
/-- A slice of the numbers of a partition in memory. -/
theorem sl8 (b : Nat) (n : Int) (h1 : 1 ≤ n) (h4 : n ≤ 4) : ∀ w : World, (Instr.sliceAt 36 (.pointer (some ⟨b, 1, none⟩)) none (some (.int .i64 (2 * n))) none).run Try.prog w = .ok (.slice (some ⟨b, 1, none⟩) (2 * n).toNat 8) w := by
  have h : n = 1 ∨ n = 2 ∨ n = 3 ∨ n = 4 := by omega
  clear h1 h4
  rcases h with rfl | rfl | rfl | rfl <;> (intro w; kernel_rfl)
theorem Own.rdP {w : World} {b : Nat} {n : Int} {ms : List Int} {t : TypeId} (h : Own w b (dcells n ms) t) (i N : Nat) (hN : i + N ≤ ms.length) : Rdf (Value.int .u8) w b (1 + i) ((ms.drop i).take N) := by
  intro j hj
  simp only [List.length_take, List.length_drop] at hj
  rw [show 1 + i + j = 1 + (i + j) by omega, h.cell, dcells_get _ _ _ (by omega), getD_take _ _ _ (by omega)]
  simp [List.getD_eq_getElem?_getD]
end Go.Proofs.Ythjgcakpimbcbaa
