/- The law of IsElement. -/
import Derived.Test.YtdmgmhjclagnpaaElA
import Derived.Test.YtdmgmhjclagnpaaOn
namespace Go.Proofs.Ytdmgmhjclagnpaa
open Go.RowKit
set_option linter.unusedVariables false
/-- An element of the laws, with its terms, as a struct of four cells. -/
theorem own4 {w : World} {g : Nat} {v0 v1 v2 v3 : Value} {t : TypeId} (h : Own w g #[v0, v1, v2, v3] t) : w.cell? ⟨g, 0, none⟩ = some v0 ∧ w.cell? ⟨g, 1, none⟩ = some v1 ∧ w.cell? ⟨g, 2, none⟩ = some v2 ∧ w.cell? ⟨g, 3, none⟩ = some v3 :=
  ⟨h.cell 0, h.cell 1, h.cell 2, h.cell 3⟩
end Go.Proofs.Ytdmgmhjclagnpaa
