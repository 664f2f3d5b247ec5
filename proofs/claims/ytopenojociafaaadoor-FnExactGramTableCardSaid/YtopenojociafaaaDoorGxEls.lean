/- The elimination of rows: the model. -/
import Derived.Test.YtopenojociafaaaDoorGmb
import Derived.Test.YtopenojociafaaaDoorGme
import Derived.Test.YtopenojociafaaaDoorGma
namespace Go.Proofs.YtopenojociafaaaDoor
open Go.RowKit
set_option linter.unusedVariables false
set_option linter.unusedSimpArgs false
theorem mk0i : ∀ w : World, (Instr.buildSlice 48 0 #[]).run Tryd.prog w = .ok (.slice (some ⟨w.heap.size, 0, none⟩) 0 0) (w.alloc (.cells #[] 2)) := by
  intro w; kernel_rfl
theorem mk1i (x : Int) : ∀ w : World, (Instr.buildSlice 48 1 #[(0, .int .i64 x)]).run Tryd.prog w = .ok (.slice (some ⟨w.heap.size, 0, none⟩) 1 1) (w.alloc (.cells #[.int .i64 x] 2)) := by
  intro w; kernel_rfl
theorem tak_succ (l : List Int) (q : Nat) (h : q < l.length) : l.take (q + 1) = l.take q ++ [l.getD q 0] := by
  rw [List.take_add_one, List.getElem?_eq_getElem h, List.getD_eq_getElem?_getD, List.getElem?_eq_getElem h]; rfl
theorem cell_keep {w x : World} (h : Below w.heap.size w x) {a : Addr} {v : Value} (hc : w.cell? a = some v) : x.cell? a = some v := (h.cell (World.block_lt_of_cell? w a hc)).trans hc
end Go.Proofs.YtopenojociafaaaDoor
