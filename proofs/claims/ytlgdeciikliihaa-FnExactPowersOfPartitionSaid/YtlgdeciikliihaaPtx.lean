/- The law of PartitionText. -/
import Derived.Test.YtlgdeciikliihaaPfl
import Derived.Test.YtlgdeciikliihaaDig
namespace Go.Proofs.Ytlgdeciikliihaa
open Go.RowKit
set_option linter.unusedVariables false
theorem isP_told {n : Int} {ms : List Int} (h : isP n ms = true) : told (ms.take (2 * n).toNat) = ms := by
  unfold isP at h
  rw [Bool.and_eq_true, decide_eq_true_iff, decide_eq_true_iff] at h
  exact h.2
theorem told_nums (xs : List Int) (h8 : xs.length ≤ 8) : Nums (told xs) := by
  intro i
  by_cases h : i < xs.length
  · have b := tZ_bd xs xs.length i h
    have c := tS_cnt xs xs.length
    unfold told; omega
  · rw [told_out xs i (by omega)]; omega
theorem isP_nums {n : Int} {ms : List Int} (hms : ms.length = 8) (h : isP n ms = true) : Nums ms := by
  have h1 := told_nums (ms.take (2 * n).toNat) (by simp; omega)
  rwa [isP_told h] at h1
end Go.Proofs.Ytlgdeciikliihaa
