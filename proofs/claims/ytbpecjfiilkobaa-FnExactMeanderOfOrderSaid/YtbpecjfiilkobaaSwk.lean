/- The model's curves. -/
import Derived.Test.YtbpecjfiilkobaaCui
import Derived.Deep.LoopGhost
namespace Go.Proofs.Ytbpecjfiilkobaa
open Go.RowKit
set_option linter.unusedVariables false
set_option linter.unusedSimpArgs false
/-- The twelve mates of a system in a block. -/
theorem own_mf {w : World} {b : Nat} {o : List Int} {L : Nat} {t : TypeId} (h : Own w b (icells o) t) (S : Sys L o) (j : Nat) (hj : j < L) : w.cell? ⟨b, j, none⟩ = some (.int .i64 ((mf o j : Nat) : Int)) := by
  rw [h.cell, icells_get _ _ (by rw [S.len]; have := S.top; omega), S.val j hj]
end Go.Proofs.Ytbpecjfiilkobaa
