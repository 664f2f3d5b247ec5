/- SystemsOf: the program's, the model's, the law. -/
import Derived.Test.YtlgdeciikliihaaMst
import Derived.Test.YtlgdeciikliihaaTxs
import Derived.Test.YtlgdeciikliihaaAre
namespace Go.Proofs.Ytlgdeciikliihaa
open Go.RowKit
set_option linter.unusedVariables false
set_option linter.unusedSimpArgs false
set_option maxRecDepth 100000 in
theorem allS_ok (m : Nat) (h1 : 1 ≤ m) (h6 : m ≤ 6) (w : World) : Calls Try.prog 43 #[.int .i64 m] w (TxPost w.heap.size [] (allH (2 * m) 0) w) := by
  have hlen := allH_len12 m h1 h6
  have hT := txs_any (2 * m + 1) [] 0 m w.heap.size w.heap.size 0 [] (w.alloc (.cells #[] 9)) (by omega) (by omega) (by simp; omega) (Strs.new w _ _ 0 (Nat.le_refl _) rfl (by decide) _ rfl) (by simp) (by rw [txs_all m h1 h6]; simp; omega)
  rw [txs_all m h1 h6] at hT
  have hT : Calls Try.prog 75 #[.slice (some ⟨w.heap.size, 0, none⟩) 0 0, .string ⟨#[]⟩, .int .i64 0, .int .i64 m] (w.alloc (.cells #[] 9)) (TxPost w.heap.size [] (allH (2 * m) 0) (w.alloc (.cells #[] 9))) := hT
  have hT := Lib.hid hT
  have b0 : Below w.heap.size w (w.alloc (.cells #[] 9)) := (Below.refl _ _).alloc (Nat.le_refl _) _
  go_enter Try.func43, Try.ntmps43
  go_wp2_with (first
    | (go_at_call 75; ((with_reducible refine (hT.out).mono ?_); rintro e w2 ⟨g, cap, rfl, hI, hB⟩)))
  go_ret
  exact ⟨g, cap, rfl, hI, b0.trans hB⟩
end Go.Proofs.Ytlgdeciikliihaa
