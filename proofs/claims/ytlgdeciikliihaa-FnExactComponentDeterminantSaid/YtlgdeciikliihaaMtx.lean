/- The laws' marks of texts: markText. -/
import Derived.Test.YtlgdeciikliihaaBase
import Derived.Laws.BytesArg
namespace Go.Proofs.Ytlgdeciikliihaa
open Go.RowKit
set_option linter.unusedVariables false
set_option linter.unusedSimpArgs false
def mdg : Nat → Nat → ByteArray → ByteArray
  | 0, _, out => out
  | f + 1, k, out => if k = 0 then out else mdg f (k / 10) (strOfNums [48 + ((k % 10 : Nat) : Int)] ++ out)
theorem mdg_zero (f : Nat) (out : ByteArray) : mdg f 0 out = out := by
  cases f <;> simp [mdg]
theorem mdg_step (f k : Nat) (out : ByteArray) (h : ¬ k = 0) : mdg (f + 1) k out = mdg f (k / 10) (strOfNums [48 + ((k % 10 : Nat) : Int)] ++ out) := by rw [mdg, if_neg h]
def mtx (k : Nat) : ByteArray := ⟨#[109]⟩ ++ mdg 8 k ⟨#[]⟩
end Go.Proofs.Ytlgdeciikliihaa
