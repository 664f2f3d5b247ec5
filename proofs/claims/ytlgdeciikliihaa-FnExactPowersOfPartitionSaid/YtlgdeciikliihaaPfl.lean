/- The law of FlipPartition. -/
import Derived.Test.YtlgdeciikliihaaPun
import Derived.Test.YtlgdeciikliihaaCatB
namespace Go.Proofs.Ytlgdeciikliihaa
open Go.RowKit
set_option linter.unusedVariables false
theorem isP_n {n : Int} {ms : List Int} (h : isP n ms = true) : 1 ≤ n ∧ n ≤ 4 := by
  unfold isP at h
  rw [Bool.and_eq_true, decide_eq_true_iff] at h
  exact h.1
/-- The program's marks of a flip. -/
def fmk (N : Nat) (ms : List Int) : List Int := (ms.drop N).take N ++ ms.take N
theorem fmk_len (N : Nat) (ms : List Int) (hms : ms.length = 8) (h4 : N ≤ 4) : (fmk N ms).length = 2 * N := by simp [fmk]; omega
/-- The model's labels of the first k points of a flip. -/
def flb (N : Nat) (ms : List Int) (k : Nat) : List Int := (List.range k).map (fun j : Nat => ms.getD ((j + N) % (2 * N)) 0)
theorem flb_len (N : Nat) (ms : List Int) (k : Nat) : (flb N ms k).length = k := by simp [flb]
theorem flb_step (N : Nat) (ms : List Int) (k : Nat) : flb N ms (k + 1) = flb N ms k ++ [ms.getD ((k + N) % (2 * N)) 0] := by simp [flb, List.range_succ]
theorem flb_end (N : Nat) (ms : List Int) (hms : ms.length = 8) (h1 : 1 ≤ N) (h4 : N ≤ 4) : flb N ms (2 * N) = fmk N ms := by
  obtain ⟨a0, a1, a2, a3, a4, a5, a6, a7, rfl⟩ := list8 ms hms
  have h : N = 1 ∨ N = 2 ∨ N = 3 ∨ N = 4 := by omega
  rcases h with rfl | rfl | rfl | rfl <;> rfl
/-- The numbers of a flip's parts. -/
def flipP (n : Int) (ms : List Int) : List Int := told (fmk n.toNat ms)
theorem flipP_len (n : Int) (ms : List Int) (hms : ms.length = 8) (h4 : n ≤ 4) : (flipP n ms).length = 8 := told_len _ (by rw [fmk_len _ _ hms (by omega)]; omega)
theorem sl8lh (b N : Nat) (h1 : 1 ≤ N) (h4 : N ≤ 4) : ∀ w : World, (Instr.sliceAt 25 (.pointer (some ⟨b, 1, none⟩)) (some (.int .i64 (N : Int))) (some (.int .i64 (2 * (N : Int)))) none).run Try.prog w = .ok (.slice (some ⟨b, 1 + N, none⟩) N (8 - N)) w := by
  have h : N = 1 ∨ N = 2 ∨ N = 3 ∨ N = 4 := by omega
  clear h1 h4
  rcases h with rfl | rfl | rfl | rfl <;> (intro w; kernel_rfl)
theorem sl8h (b N : Nat) (h1 : 1 ≤ N) (h4 : N ≤ 4) : ∀ w : World, (Instr.sliceAt 25 (.pointer (some ⟨b, 1, none⟩)) none (some (.int .i64 (N : Int))) none).run Try.prog w = .ok (.slice (some ⟨b, 1, none⟩) N 8) w := by
  have h : N = 1 ∨ N = 2 ∨ N = 3 ∨ N = 4 := by omega
  clear h1 h4
  rcases h with rfl | rfl | rfl | rfl <;> (intro w; kernel_rfl)
theorem Own.rdA {w : World} {b : Nat} {n : Int} {ms : List Int} {t : TypeId} (h : Own w b (dcells n ms) t) (i N : Nat) (hN : i + N ≤ ms.length) : RdA w ⟨b, 1 + i, none⟩ ((ms.drop i).take N) := by
  intro j hj
  rw [Addr.add_mid]
  exact h.rdP i N hN j hj
end Go.Proofs.Ytlgdeciikliihaa
