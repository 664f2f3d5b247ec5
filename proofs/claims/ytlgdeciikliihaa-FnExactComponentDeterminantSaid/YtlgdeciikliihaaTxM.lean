/- Plain mathematics: the texts of brackets in order. -/
import Derived.Test.YtlgdeciikliihaaExM
namespace Go.Proofs.Ytlgdeciikliihaa
open Go.RowKit
set_option linter.unusedVariables false
def txs : Nat → List UInt8 → Nat → Nat → List (List UInt8)
  | 0, _, _, _ => []
  | f + 1, t, o, r => if o = 0 ∧ r = 0 then [t] else (if 0 < r then txs f (t ++ [40]) (o + 1) (r - 1) else []) ++ (if 0 < o then txs f (t ++ [41]) (o - 1) r else [])
theorem txs_end (f : Nat) (t : List UInt8) : txs (f + 1) t 0 0 = [t] := by rw [txs, if_pos ⟨rfl, rfl⟩]
theorem txs_step (f : Nat) (t : List UInt8) (o r : Nat) (h : ¬ (o = 0 ∧ r = 0)) : txs (f + 1) t o r = (if 0 < r then txs f (t ++ [40]) (o + 1) (r - 1) else []) ++ (if 0 < o then txs f (t ++ [41]) (o - 1) r else []) := by rw [txs, if_neg h]
/-- All systems of m arches, as both list them. -/
theorem txs_all (m : Nat) (h1 : 1 ≤ m) (h6 : m ≤ 6) : txs (2 * m + 1) [] 0 m = allH (2 * m) 0 := by
  have h : m = 1 ∨ m = 2 ∨ m = 3 ∨ m = 4 ∨ m = 5 ∨ m = 6 := by omega
  rcases h with rfl | rfl | rfl | rfl | rfl | rfl <;> decide +kernel
theorem allH_len12 (m : Nat) (h1 : 1 ≤ m) (h6 : m ≤ 6) : (allH (2 * m) 0).length ≤ 132 := by
  have h : m = 1 ∨ m = 2 ∨ m = 3 ∨ m = 4 ∨ m = 5 ∨ m = 6 := by omega
  rcases h with rfl | rfl | rfl | rfl | rfl | rfl <;> decide +kernel
def bsv (x : List UInt8) : ByteArray := ⟨x.toArray⟩
def bsl (L : List (List UInt8)) : List ByteArray := L.map bsv
theorem bsl_app (A B : List (List UInt8)) : bsl (A ++ B) = bsl A ++ bsl B := by simp [bsl]
theorem bsv_app (t : List UInt8) (c : UInt8) : bsv t ++ ⟨#[c]⟩ = bsv (t ++ [c]) := by
  apply ByteArray.ext
  simp [bsv]
end Go.Proofs.Ytlgdeciikliihaa
