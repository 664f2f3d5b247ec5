/- The law of UnitPartition. -/
import Derived.Test.YtlgdeciikliihaaPtS
import Derived.Test.YtlgdeciikliihaaSl
import Derived.Test.YtlgdeciikliihaaIntsAt
namespace Go.Proofs.Ytlgdeciikliihaa
open Go.RowKit
set_option linter.unusedVariables false
/-- The program's marks of the unit behind k points. -/
def umk (N k : Nat) : List Int := (List.range (2 * N)).map (fun j => if j < k then (j : Int) else if N ≤ j ∧ j < N + k then (j : Int) - N else 0)
theorem umk_len (N k : Nat) : (umk N k).length = 2 * N := by simp [umk]
theorem umk_step : ∀ N, N ≤ 4 → ∀ k, k < N → ((umk N k).set k (k : Int)).set (N + k) (k : Int) = umk N (k + 1) := by decide
theorem umk_zero : ∀ N, N ≤ 4 → umk N 0 = List.replicate (2 * N) 0 := by decide
/-- The model's labels of the first k points of the unit. -/
def ulb (N k : Nat) : List Int := (List.range k).map (fun j : Nat => (j : Int) % (N : Int))
theorem ulb_len (N k : Nat) : (ulb N k).length = k := by simp [ulb]
theorem ulb_step (N k : Nat) : ulb N (k + 1) = ulb N k ++ [(k : Int) % N] := by simp [ulb, List.range_succ]
theorem ulb_end : ∀ N, N ≤ 4 → ulb N (2 * N) = umk N N := by decide
/-- The numbers of the unit's parts. -/
def unitP (n : Int) : List Int := told (umk n.toNat n.toNat)
theorem unitP_len (n : Int) (h4 : n ≤ 4) : (unitP n).length = 8 := told_len _ (by rw [umk_len]; omega)
theorem Own.rdI {w : World} {b : Nat} {xs : List Int} {t : TypeId} (h : Own w b (icells xs) t) : Rdf (Value.int .i64) w b 0 xs := by
  intro j hj
  rw [Nat.zero_add, h.cell, icells_get _ _ hj]
theorem Ints.rdf {w : World} {base g cap : Nat} {xs : List Int} (h : Ints w base g cap xs) : Rdf (Value.int .i64) w g 0 xs := by
  intro j hj
  rw [Nat.zero_add]; exact h.cell j hj
theorem mkE7 : ∀ w : World, (Instr.buildSlice 28 0 #[]).run Try.prog w = .ok (.slice (some ⟨w.heap.size, 0, none⟩) 0 0) (w.alloc (.cells #[] 2)) := by
  intro w; kernel_rfl
end Go.Proofs.Ytlgdeciikliihaa
