/- The walks of the laws over partitions. -/
import Derived.Test.YtblbnlpbefmieaaPii
namespace Go.Proofs.Ytblbnlpbefmieaa
open Go.RowKit
set_option linter.unusedVariables false
theorem isPIb_any (n : Int) (ms : List Int) (hms : ms.length = 8) (hb : Bytes ms) (w : World) :
    Calls Try.prog 45 #[.agg (dcells n ms)] w fun e w' => e = .returned (.bool (isP n ms)) ∧ Below w.heap.size w w' := isPI_any n ms hms w
set_option maxRecDepth 100000 in
theorem isPSx_any (n : Int) (ms : List Int) (hms : ms.length = 8) (hb : Bytes ms) (w : World) :
    Calls Try.prog 46 #[.agg (dcells n ms)] w fun e w' => e = .returned (.bool (isP n ms)) ∧ Below w.heap.size w w' := by
  have hl := Lib.hid hms
  have hc := Lib.hid (fun w => isPS_any n ms hms hb w)
  obtain ⟨b, hbb⟩ : ∃ b, isP n ms = b := ⟨_, rfl⟩
  rw [hbb] at hc ⊢
  clear hms hb hbb
  go_enter Try.func46, Try.ntmps46
  go_wp2_with (first
    | (refine wpList_load_row rfl 28 _ rfl _ rfl 28 _ (0, 0) _ (Own.new _ _ _) Try.underlying28 rfl (rowP (d9 _ _ (hl.out))) ?_)
    | (go_at_call 79; ((with_reducible refine (hc.out _).mono ?_); rintro e w1 ⟨rfl, hB1⟩)))
  go_ret
  have b0 : Below w.heap.size w (w.alloc (.cells (dcells n ms) 28)) := (Below.refl _ _).alloc (Nat.le_refl _) _
  exact ⟨rfl, b0.trans (hB1.mono b0.size)⟩
end Go.Proofs.Ytblbnlpbefmieaa
