/- Contracts of the model's reading of texts. -/
import Derived.Test.YtdmgmhjclagnpaaSpecA
import Derived.Test.YtdmgmhjclagnpaaInts
import Derived.Test.YtdmgmhjclagnpaaParse
namespace Go.Proofs.Ytdmgmhjclagnpaa
open Go.RowKit
set_option maxRecDepth 100000 in
theorem placeS_any (n i : Int) (w : World) (h0 : 0 ≤ n) (h8 : n ≤ 8) (hi : 0 ≤ i) (hi2 : i ≤ 255) :
    Calls Try.prog 85 #[.int .i64 n, .int .i64 i] w fun e w' => e = .returned (.int .i64 (pl n i)) ∧ w' = w := by
  by_cases h : i < n
  · have e : pl n i = i := by unfold pl; rw [if_pos h]
    rw [e]
    clear e
    go_enter Try.func85, Try.ntmps85
    go_wp2
    go_ret
    exact ⟨rfl, rfl⟩
  · have e : pl n i = 3 * n - 1 - i := by unfold pl; rw [if_neg h]
    rw [e]
    clear e
    go_enter Try.func85, Try.ntmps85
    go_wp2
    go_ret
    exact ⟨rfl, rfl⟩
theorem mk0 : ∀ w : World, (Instr.buildSlice 114 0 #[]).run Try.prog w = .ok (.slice (some ⟨w.heap.size, 0, none⟩) 0 0) (w.alloc (.cells #[] 2)) := by
  intro w; kernel_rfl
end Go.Proofs.Ytdmgmhjclagnpaa
