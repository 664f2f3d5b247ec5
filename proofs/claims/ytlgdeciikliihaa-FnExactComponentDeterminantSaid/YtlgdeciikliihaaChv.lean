/- CountHalves: the program's, and the law. -/
import Derived.Test.YtlgdeciikliihaaSea
import Derived.Test.YtlgdeciikliihaaChm
namespace Go.Proofs.Ytlgdeciikliihaa
open Go.RowKit Go.Shelf
attribute [local go_sem] Oper.semAt_some
set_option linter.unusedVariables false
set_option linter.unusedSimpArgs false
theorem wide_room : (Fence.wide).depth = none := rfl
theorem wide_round : (Fence.wide).round = none := rfl
theorem seaI_any (n k : Int) (w : World) : Calls Try.prog 106 #[.int .i64 n, .int .i64 k] w fun e w' =>
    e = .returned (.func (.func 114) #[] #[.pointer (some ⟨w.heap.size, 0, none⟩), .pointer (some ⟨w.heap.size + 1, 0, none⟩)]) ∧ w' = (w.alloc (.cells #[.int .i64 n] 2)).alloc (.cells #[.int .i64 k] 2) := by
  go_enter Try.func106, Try.ntmps106
  go_wp2
  go_ret
  exact ⟨rfl, rfl⟩
end Go.Proofs.Ytlgdeciikliihaa
