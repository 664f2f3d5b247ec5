/- Contracts of the comparisons that the exact laws use. -/
import Derived.Test.YtdmgmhjclagnpaaBase
import Derived.Deep.QuietTactic
import Derived.BigQuiet
namespace Go.Proofs.Ytdmgmhjclagnpaa
open Go.RowKit
set_option maxRecDepth 100000 in
set_option maxHeartbeats 400000 in
theorem eqB_same (ms : List Int) (hms : ms.length = 16) (w : World) :
    Calls Try.prog 96 #[.agg (mcells ms), .agg (mcells ms)] w fun e w' => e = .returned (.bool true) ∧ Below w.heap.size w w' := by
  have hl := Lib.hid hms
  clear hms
  go_enter Try.func96, Try.ntmps96
  go_wp2
  go_loopw [5] (fun i wr => ∃ k : Nat, k ≤ 16 ∧ i = .int .i64 k ∧ Own wr w.heap.size (mcells ms) 49 ∧ Own wr (w.heap.size + 1) (mcells ms) 49 ∧ Below w.heap.size w wr) (fun i _ => (16 - intOf i).toNat)
  case atStart => exact ⟨0, by omega, rfl, Own.alloc (Own.new _ _ _) _, Own.at _ _ _ (by simp), ((Below.refl _ _).alloc (Nat.le_refl _) _).alloc (by simp) _⟩
  case round =>
    obtain ⟨k, hk, rfl, hO, hR, hB⟩ := hrel
    by_cases hlt : k < 16
    · have c1 := hO.cell k
      rw [mcells_get _ _ (by rw [hl.out]; exact hlt)] at c1
      have c2 := hR.cell k
      rw [mcells_get _ _ (by rw [hl.out]; exact hlt)] at c2
      go_wp2
      go_quiet (fail)
      go_wp2
      go_roundw
      case rel => exact ⟨k + 1, by omega, by go_num, hO.drewN _, hR.drewN _, Below.drewN hB _⟩
      case measure => simp [intOf]; omega
    · go_wp2
      go_ret
      exact ⟨rfl, hB⟩
set_option maxRecDepth 100000 in
theorem eqD_same (n : Int) (ms : List Int) (hms : ms.length = 16) (w : World) :
    Calls Try.prog 88 #[.agg (dcells n ms), .agg (dcells n ms)] w fun e w' => e = .returned (.bool true) ∧ Below w.heap.size w w' := by
  have hl := Lib.hid hms
  have c0 := dcells_zero n ms
  clear hms
  go_enter Try.func88, Try.ntmps88
  go_wp2_with (first
    | (refine wpList_load_mid rfl 49 (.tmp 10) rfl _ 1 rfl _ _ (Own.mates ((Own.new _ _ _).alloc _)) Try.underlying49 rfl (len16 hl.out) ?_)
    | (refine wpList_load_mid rfl 49 (.tmp 12) rfl _ 1 rfl _ _ (Own.mates (Own.at _ _ _ (by simp))) Try.underlying49 rfl (len16 hl.out) ?_)
    | (go_at_call 96; refine (eqB_same ms hl.out _).mono ?_; rintro e w1 ⟨rfl, hB1⟩))
  go_ret
  exact ⟨rfl, (((Below.refl _ _).alloc (Nat.le_refl _) _).alloc (by simp) _).trans (hB1.mono (by simp; omega))⟩
end Go.Proofs.Ytdmgmhjclagnpaa
